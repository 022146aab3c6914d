package kick_test

import (
	"slices"
	"testing"

	"moonpool/api"
	"moonpool/kick"
)

// k is the kick K of the chapter's examples, a and b are its sensors A and B.
func k() api.Kick { return api.Kick{Rate: 1000, Grow: 100} }

func a() api.Sensor {
	return api.Sensor{Channel: api.ChannelPit, Period: 10, Delay: 5, Noise: 2, Step: 1000, Lost: 1, Limit: 20000, Hold: 2}
}

func b() api.Sensor {
	return api.Sensor{Channel: api.ChannelFlow, Period: 1, Step: 1, Limit: 3000, Hold: 1}
}

func span(lo, hi int64) api.Range { return api.Range{Lo: lo, Hi: hi} }

func sample(sensor int, tick, value int64) api.Sample {
	return api.Sample{Sensor: sensor, Tick: tick, Value: value}
}

// wrongSensors are sensors that are not valid, with their errors.
func wrongSensors() map[api.Errno][]api.Sensor {
	with := func(change func(*api.Sensor)) api.Sensor {
		s := a()
		change(&s)
		return s
	}
	return map[api.Errno][]api.Sensor{
		api.ErrKind: {with(func(s *api.Sensor) { s.Channel = 0; s.Period = 0 }), with(func(s *api.Sensor) { s.Channel = 3 })},
		api.ErrRange: {
			with(func(s *api.Sensor) { s.Period = 0 }), with(func(s *api.Sensor) { s.Period = 61 }), with(func(s *api.Sensor) { s.Delay = -1 }), with(func(s *api.Sensor) { s.Delay = 601 }),
			with(func(s *api.Sensor) { s.Noise = -1 }), with(func(s *api.Sensor) { s.Noise = 16 }), with(func(s *api.Sensor) { s.Step = 0 }), with(func(s *api.Sensor) { s.Step = 1<<20 + 1 }),
			with(func(s *api.Sensor) { s.Lost = -1 }), with(func(s *api.Sensor) { s.Lost = 6 }), with(func(s *api.Sensor) { s.Limit = 0 }), with(func(s *api.Sensor) { s.Limit = 1<<40 + 1 }), with(func(s *api.Sensor) { s.Hold = 0 }), with(func(s *api.Sensor) { s.Hold = 9 }),
		},
	}
}

func TestP6_1Kicks(t *testing.T) {
	for i, c := range []struct{ got, want int64 }{
		{kick.Flow(k(), 3), 1300}, {kick.Gain(k(), 3), 3300}, {kick.Gain(k(), 0), 0}, {kick.Flow(k(), 0), 1000}, {kick.Gain(k(), 1), 1000},
		{kick.Flow(k(), -1), 0}, {kick.Gain(k(), -1), 0}, {kick.Flow(k(), 20000), 2001000}, {kick.Flow(k(), 20001), 0}, {kick.Gain(k(), 20001), 0}, {kick.Gain(api.Kick{Rate: 1 << 24, Grow: 4096}, 20000), 20000<<24 + 4096*19999*10000},
		{kick.Flow(api.Kick{Rate: -1}, 5), 0}, {kick.Gain(api.Kick{Rate: 1<<24 + 1}, 5), 0}, {kick.Gain(api.Kick{Rate: 5, Grow: 4097}, 5), 0}, {kick.Flow(api.Kick{Rate: 5, Grow: -1}, 5), 0},
	} {
		if c.got != c.want {
			t.Error(i, c)
		}
	}
	for i, c := range []struct {
		k    api.Kick
		want api.Errno
	}{{k(), api.OK}, {api.Kick{}, api.OK}, {api.Kick{Rate: 1 << 24, Grow: 4096}, api.OK}, {api.Kick{Rate: -1}, api.ErrRange}, {api.Kick{Rate: 1<<24 + 1}, api.ErrRange}, {api.Kick{Grow: -1}, api.ErrRange}, {api.Kick{Grow: 4097}, api.ErrRange}} {
		if e := kick.CheckKick(c.k); e != c.want {
			t.Error(i, e)
		}
	}
	for i, c := range []struct {
		x    api.Kicks
		want api.Errno
	}{{api.Kicks{}, api.OK}, {api.Kicks{Rate: span(1, 5), Grow: span(0, 4096)}, api.OK}, {api.Kicks{Rate: span(6, 5)}, api.ErrRange}, {api.Kicks{Grow: span(6, 5)}, api.ErrRange}, {api.Kicks{Rate: span(-1, 5)}, api.ErrRange}, {api.Kicks{Rate: span(1, 1<<24+1)}, api.ErrRange}, {api.Kicks{Grow: span(0, 4097)}, api.ErrRange}} {
		if e := kick.CheckKicks(c.x); e != c.want {
			t.Error(i, e)
		}
	}
}

func TestP6_1Sensors(t *testing.T) {
	if kick.CheckSensor(a()) != api.OK || kick.CheckSensors([]api.Sensor{a(), b(), a(), b()}) != api.OK {
		t.Error("they are valid")
	}
	for want, l := range wrongSensors() {
		for i, s := range l {
			if e := kick.CheckSensor(s); e != want {
				t.Error(i, e, want)
			}
			if e := kick.CheckSensors([]api.Sensor{a(), s}); e != want {
				t.Error(i, e, want)
			}
			_, late := kick.Late(s, k())
			slow, ok := kick.Slow(s, k())
			if kick.Value(s, k(), 1, 0) != 0 || late || ok || slow != nil || kick.Possible(s, k(), 0, nil) {
				t.Error(i, "a sensor that is not valid")
			}
		}
	}
	if e := kick.CheckSensors(nil); e != api.ErrShort {
		t.Error(e)
	}
	if e := kick.CheckSensors(make([]api.Sensor, 5)); e != api.ErrFull {
		t.Error(e)
	}
	for i, c := range []struct {
		s    api.Sensor
		k    api.Kick
		n, e int64
		want int64
	}{{a(), k(), 3, -2, 1300}, {a(), k(), -1, 1, 1000}, {a(), k(), -1 << 63, 1, 1000}, {b(), k(), 7, 0, 1700}, {b(), k(), -7, 0, 0}, {a(), k(), 3, 3, 0}, {a(), k(), 3, -3, 0}, {a(), api.Kick{Rate: -1}, 3, 0, 0}, {a(), k(), 20001, 0, 0}, {a(), k(), 20000, 0, 20000*1000 + 100*10000*19999}} {
		if v := kick.Value(c.s, c.k, c.n, c.e); v != c.want {
			t.Error(i, v)
		}
	}
}

func TestP6_2Watch(t *testing.T) {
	both := []api.Sensor{a(), b()}
	for i, c := range []struct {
		l       []api.Sensor
		samples []api.Sample
		want    api.Alarm
		ok      bool
		e       api.Errno
	}{
		{both, []api.Sample{sample(1, 7, 2999), sample(1, 8, 3000), sample(1, 9, 5000)}, api.Alarm{Sensor: 1, Tick: 8}, true, api.OK},
		{both, nil, api.Alarm{}, false, api.OK}, {both, []api.Sample{sample(0, 1, 20000)}, api.Alarm{}, false, api.OK},
		{both, []api.Sample{sample(0, 1, 20000), sample(0, 2, 20000)}, api.Alarm{Sensor: 0, Tick: 7}, true, api.OK}, {both, []api.Sample{sample(0, 1, 20000), sample(0, 2, 19999), sample(0, 3, 20000)}, api.Alarm{}, false, api.OK},
		{both, []api.Sample{sample(0, 1, 20000), sample(0, 2, 20000), sample(1, 7, 3000)}, api.Alarm{Sensor: 0, Tick: 7}, true, api.OK}, {both, []api.Sample{sample(1, 6, 3000), sample(0, 1, 20000), sample(0, 2, 20000)}, api.Alarm{Sensor: 1, Tick: 6}, true, api.OK},
		{nil, []api.Sample{sample(9, 0, 0)}, api.Alarm{}, false, api.ErrShort},
		{both, make([]api.Sample, 201), api.Alarm{}, false, api.ErrFull},
		{both, []api.Sample{sample(0, -1, 0), sample(2, 0, 0)}, api.Alarm{}, false, api.ErrMissing}, {both, []api.Sample{sample(-1, 0, 0)}, api.Alarm{}, false, api.ErrMissing},
		{both, []api.Sample{sample(0, 5, 0), sample(0, 5, 0), sample(0, -1, 0)}, api.Alarm{}, false, api.ErrRange}, {both, []api.Sample{sample(0, 1<<40-599, 0)}, api.Alarm{}, false, api.ErrRange}, {both, []api.Sample{sample(0, 1<<40-600, 0)}, api.Alarm{}, false, api.OK},
		{both, []api.Sample{sample(0, 0, 1<<50+1)}, api.Alarm{}, false, api.ErrRange}, {both, []api.Sample{sample(0, 0, -1<<50-1)}, api.Alarm{}, false, api.ErrRange}, {both, []api.Sample{sample(0, 0, -1<<50), sample(1, 0, -1<<50)}, api.Alarm{}, false, api.OK},
		{both, []api.Sample{sample(0, 5, 0), sample(1, 3, 0), sample(0, 5, 0)}, api.Alarm{}, false, api.ErrOrder}, {both, []api.Sample{sample(0, 5, 0), sample(1, 3, 0), sample(0, 6, 0), sample(1, 4, 0)}, api.Alarm{}, false, api.OK},
	} {
		got, ok, e := kick.Watch(c.l, c.samples)
		if got != c.want || ok != c.ok || e != c.e {
			t.Error(i, got, ok, e)
		}
	}
}

func TestP6_2Possible(t *testing.T) {
	x := func(l ...int64) []api.Sample {
		var samples []api.Sample
		for i := 0; i+1 < len(l); i += 2 {
			samples = append(samples, sample(7, l[i], l[i+1]))
		}
		return samples
	}
	// The kick began at 20: at 23 its gain is 3300, at 33 it is 20800.
	for i, c := range []struct {
		samples []api.Sample
		begin   int64
		want    bool
	}{
		{nil, 20, true}, {x(3, 0, 13, -2000, 23, 1300, 33, 22800), 20, true}, {x(13, 0, 33, 20800), 20, true}, {x(23, 3300), 20, false}, {x(3, 0, 33, 20800), 20, false},
		{x(3, 0, 14, 0), 20, false}, {x(3, 0, 3, 0), 20, false}, {x(13, 0, 3, 0), 20, false}, {x(3, 3000), 20, false}, {x(3, -3000), 20, false}, {x(3, 500), 20, false}, {x(3, 2000), 20, true}, {x(3, 1<<63-1), 20, false}, {x(3, -1<<63), 20, false},
		{nil, -1, false}, {nil, 20001, false}, {nil, 20000, true}, {make([]api.Sample, 201), 20, false}, {x(-1, 0), 20, false}, {x(-10, 0), 20, false}, {[]api.Sample{sample(1, 3, 0), sample(2, 13, 0)}, 20, false},
	} {
		if got := kick.Possible(a(), k(), c.begin, c.samples); got != c.want {
			t.Error(i, got)
		}
	}
	if kick.Possible(a(), api.Kick{Rate: -1}, 0, nil) {
		t.Error("a kick that is not valid")
	}
	// Ticks go up to 40000, and to 20000 after the beginning.
	wide := a()
	wide.Period, wide.Lost, wide.Channel = 60, 5, api.ChannelFlow
	var long []api.Sample
	for tick := int64(300); tick <= 40000; tick += 360 {
		long = append(long, sample(0, tick, max(0, tick-20000)))
	}
	quiet := api.Kick{Rate: 0, Grow: 1}
	wide.Step = 1
	if !kick.Possible(wide, quiet, 20000, long) || kick.Possible(wide, quiet, 19000, long) {
		t.Error("long samples")
	}
	if kick.Possible(wide, quiet, 20000, append(long, sample(0, long[len(long)-1].Tick+360, long[len(long)-1].Value+360))) {
		t.Error("a tick above 40000")
	}
}

func TestP6_3Late(t *testing.T) {
	slow := b()
	slow.Limit = 1000 + 100*20000
	tests := []struct {
		s    api.Sensor
		k    api.Kick
		want int64
		ok   bool
	}{{b(), k(), 20, true}, {a(), k(), 58, true}, {slow, k(), 0, false}, {b(), api.Kick{}, 0, false}, {b(), api.Kick{Rate: 3000}, 0, true}, {b(), api.Kick{Rate: -1}, 0, false}, {b(), api.Kick{Grow: 1}, 3000, true}}
	edge := b()
	edge.Limit = 10000
	tests = append(tests, struct {
		s    api.Sensor
		k    api.Kick
		want int64
		ok   bool
	}{edge, api.Kick{Grow: 1}, 10000, true})
	edge.Delay = 1
	for i, c := range append(tests, struct {
		s    api.Sensor
		k    api.Kick
		want int64
		ok   bool
	}{edge, api.Kick{Grow: 1}, 0, false}) {
		if got, ok := kick.Late(c.s, c.k); got != c.want || ok != c.ok {
			t.Error(i, got, ok)
		}
	}
	set := api.Kicks{Rate: span(1000, 1000), Grow: span(100, 100)}
	both := []api.Sensor{a(), b()}
	if n, e := kick.Latest(both, set); n != 20 || e != api.OK {
		t.Error(n, e)
	}
	if n, g, e := kick.Caught(both, k()); n != 20 || g != 39000 || e != api.OK {
		t.Error(n, g, e)
	}
	if n, g, e := kick.Caught([]api.Sensor{a()}, k()); n != 58 || g != 223300 || e != api.OK {
		t.Error(n, g, e)
	}
	for i, c := range []struct {
		l    []api.Sensor
		x    api.Kicks
		want api.Errno
	}{{both[1:], api.Kicks{Rate: span(0, 1000), Grow: span(0, 100)}, api.ErrLate}, {nil, api.Kicks{Rate: span(1, 0)}, api.ErrShort}, {both, api.Kicks{Rate: span(1, 0)}, api.ErrRange}} {
		if n, e := kick.Latest(c.l, c.x); n != 0 || e != c.want {
			t.Error(i, n, e)
		}
	}
	for i, c := range []struct {
		l    []api.Sensor
		k    api.Kick
		want api.Errno
	}{{both[1:], api.Kick{}, api.ErrLate}, {nil, api.Kick{Rate: -1}, api.ErrShort}, {both, api.Kick{Rate: -1}, api.ErrRange}} {
		if n, g, e := kick.Caught(c.l, c.k); n != 0 || g != 0 || e != c.want {
			t.Error(i, n, g, e)
		}
	}
	// A sensor that is too slow does not hinder another one.
	if n, e := kick.Latest([]api.Sensor{slow, b()}, set); n != 20 || e != api.OK {
		t.Error(n, e)
	}
}

func TestP6_4Slow(t *testing.T) {
	l, ok := kick.Slow(a(), k())
	// Phase 3, and a is 2: the samples 0 and 1, and then those with the numbers 3 and 5.
	want := []api.Sample{sample(0, 3, 1300), sample(0, 13, 18800), sample(0, 33, 33*1000+100*33*16-2000), sample(0, 53, 53*1000+100*53*26-2000)}
	if !ok || !slices.Equal(l, want) {
		t.Error(l, ok)
	}
	if l, ok := kick.Slow(b(), api.Kick{}); ok || l != nil {
		t.Error(l, ok)
	}
	many := b()
	many.Limit = 199
	if l, ok := kick.Slow(many, api.Kick{Grow: 1}); !ok || len(l) != 200 {
		t.Error(len(l), ok)
	}
	many.Limit = 200
	if l, ok := kick.Slow(many, api.Kick{Grow: 1}); ok || l != nil {
		t.Error(len(l), ok)
	}
}

func TestP6_5False(t *testing.T) {
	s := func(noise, limit, hold int64) api.Sensor {
		return api.Sensor{Channel: api.ChannelFlow, Period: 1, Noise: noise, Step: 1000, Limit: limit, Hold: hold}
	}
	for i, c := range []struct {
		s           api.Sensor
		draws       int
		alarms, all int64
		e           api.Errno
	}{
		{s(2, 1000, 2), 2, 4, 25, api.OK}, {s(2, 1000, 2), 3, 32, 125, api.OK}, {s(2, 2001, 2), 3, 0, 125, api.OK}, {s(2, 2000, 2), 3, 9, 125, api.OK}, {s(0, 1, 1), 12, 0, 1, api.OK}, {s(2, 1000, 8), 7, 0, 78125, api.OK}, {s(2, 1000, 8), 8, 256, 390625, api.OK},
		{s(15, 1, 1), 12, 787662783788549761 - 16*16*16*16*16*16*16*16*16*16*16*16, 787662783788549761, api.OK},
		{s(2, 1000, 2), 0, 0, 0, api.ErrRange}, {s(2, 1000, 2), 13, 0, 0, api.ErrRange}, {api.Sensor{}, 0, 0, 0, api.ErrKind},
	} {
		if n, all, e := kick.False(c.s, c.draws); n != c.alarms || all != c.all || e != c.e {
			t.Error(i, n, all, e)
		}
	}
}

func TestP6_6Identify(t *testing.T) {
	shut := func() api.Shut {
		return api.Shut{Pipe: span(100, 100), Casing: span(400, 400), Gain: span(2000, 2000), Weight: 10, Depth: 1000, Area: 100}
	}
	if x, e := kick.Identify(shut()); e != api.OK || x != (api.Ingress{Pore: span(10100, 10100), Height: span(20, 20), Weight: span(-5, -5), Kind: api.InfluxGas}) {
		t.Error(x, e)
	}
	if x, e := kick.Identify(api.Shut{Pipe: span(100, 110), Casing: span(400, 430), Gain: span(2010, 2020), Weight: 12000, Depth: 1000, Area: 100}); e != api.OK || x != (api.Ingress{Pore: span(12000100, 12000110), Height: span(20, 21), Weight: span(12000-17, 12000-13), Kind: api.InfluxWater}) {
		t.Error(x, e)
	}
	// With a height of 1 the weight is what the pressures say.
	for i, c := range []struct{ lo, hi, kind int64 }{
		{3500, 3500, 1}, {0, 3500, 1}, {3500, 3501, 4}, {3501, 3501, 2}, {3501, 8999, 2}, {3501, 9000, 4}, {8999, 9000, 4}, {9000, 9000, 3}, {9000, 20000, 3}, {0, 20000, 4},
	} {
		x := api.Shut{Casing: span(20000-c.hi, 20000-c.lo), Gain: span(1, 1), Weight: 20000, Depth: 1, Area: 1}
		if got, e := kick.Identify(x); e != api.OK || got.Weight != span(c.lo, c.hi) || int64(got.Kind) != c.kind {
			t.Error(i, got, e)
		}
	}
	for i, c := range []struct {
		change func(*api.Shut)
		want   api.Errno
	}{
		{func(x *api.Shut) { x.Pipe = span(101, 100) }, api.ErrRange}, {func(x *api.Shut) { x.Casing = span(401, 400) }, api.ErrRange}, {func(x *api.Shut) { x.Gain = span(2001, 2000) }, api.ErrRange},
		{func(x *api.Shut) { x.Pipe = span(-1, 100) }, api.ErrRange}, {func(x *api.Shut) { x.Casing = span(400, 1<<36+1) }, api.ErrRange}, {func(x *api.Shut) { x.Weight = 0 }, api.ErrRange}, {func(x *api.Shut) { x.Weight = 40001 }, api.ErrRange},
		{func(x *api.Shut) { x.Depth = 0 }, api.ErrRange}, {func(x *api.Shut) { x.Depth = 1<<20 + 1 }, api.ErrRange}, {func(x *api.Shut) { x.Area = 0; x.Gain = span(0, 0) }, api.ErrRange}, {func(x *api.Shut) { x.Area = 5001; x.Gain = span(6000, 6000) }, api.ErrRange},
		{func(x *api.Shut) { x.Gain = span(99, 2000) }, api.ErrRange}, {func(x *api.Shut) { x.Gain = span(100, 1<<30+1) }, api.ErrRange}, {func(x *api.Shut) { x.Gain = span(100, 1<<30) }, api.OK},
		{func(x *api.Shut) { x.Pipe = span(100, 401) }, api.ErrOrder}, {func(x *api.Shut) { x.Pipe = span(100, 400) }, api.OK}, {func(x *api.Shut) { x.Pipe = span(100, 401); x.Depth = 0 }, api.ErrRange},
	} {
		x := shut()
		c.change(&x)
		if got, e := kick.Identify(x); e != c.want || e != api.OK && got != (api.Ingress{}) {
			t.Error(i, got, e)
		}
	}
}
