package kick_test

import (
	"testing"

	"moonpool/api"
	"moonpool/kick"
)

// The borders of what is valid belong to it.

func TestP6_2Borders(t *testing.T) {
	four := []api.Sensor{b(), b(), b(), b()}
	var many []api.Sample
	for tick := range int64(50) {
		for n := range four {
			many = append(many, sample(n, tick, 0))
		}
	}
	if _, ok, e := kick.Watch(four, many); ok || e != api.OK {
		t.Error(ok, e)
	}
	if !kick.Possible(b(), k(), 20000, []api.Sample{sample(0, 0, 0), sample(0, 1, 0)}) {
		t.Error("before the kick began")
	}
	rough := api.Sensor{Channel: api.ChannelFlow, Period: 1, Noise: 2, Step: 3, Limit: 1, Hold: 1, Lost: 5}
	for i, c := range []struct {
		begin int64
		step  int64
		want  bool
	}{{20000, 6, true}, {19999, 6, false}, {20000, 7, false}} {
		// The last tick is 40000, 20000 after the beginning; a sample comes every c.step ticks.
		var l []api.Sample
		for tick := 40000 - c.step*199; tick <= 40000; tick += c.step {
			l = append(l, sample(0, tick, max(0, tick-c.begin)))
		}
		// The first one must be among the first six ticks, so only its phase matters here.
		late := api.Sensor{Channel: api.ChannelFlow, Period: 60, Noise: 2, Step: 3, Limit: 1, Hold: 1, Lost: 5}
		if got := kick.Possible(rough, api.Kick{Grow: 1}, c.begin, l); got {
			t.Error(i, "the first sample comes too late")
		}
		var all []api.Sample
		for tick := int64(40000 % 360); tick <= 40000; tick += 60 * c.step {
			all = append(all, sample(0, tick, max(0, tick-c.begin)))
		}
		if got := kick.Possible(late, api.Kick{Grow: 1}, c.begin, all); got != c.want {
			t.Error(i, got)
		}
	}
}

func TestP6_3NoticedAtOnce(t *testing.T) {
	at := api.Kick{Rate: 3000}
	slow := a()
	for i, l := range [][]api.Sensor{{b()}, {b(), slow}, {slow, b()}} {
		if n, g, e := kick.Caught(l, at); n != 0 || g != 0 || e != api.OK {
			t.Error(i, n, g, e)
		}
		if n, e := kick.Latest(l, api.Kicks{Rate: span(3000, 4000)}); n != 0 || e != api.OK {
			t.Error(i, n, e)
		}
	}
	if l, ok := kick.Slow(b(), at); !ok || len(l) != 1 || l[0] != sample(0, 0, 3000) {
		t.Error(l, ok)
	}
}

func TestP6_6Borders(t *testing.T) {
	for i, c := range []struct {
		x    api.Shut
		want api.Errno
	}{
		{api.Shut{Gain: span(1, 1), Weight: 1, Depth: 1, Area: 1}, api.OK}, {api.Shut{Gain: span(5000, 1<<30), Weight: 40000, Depth: 1 << 20, Area: 5000, Casing: span(0, 1<<36)}, api.OK}, {api.Shut{Gain: span(1, 1), Weight: 1, Depth: 1, Area: 0}, api.ErrRange}, {api.Shut{Gain: span(0, 1), Weight: 1, Depth: 1, Area: 0}, api.ErrRange},
		{api.Shut{Gain: span(1, 1), Weight: 1, Depth: 1, Area: 1, Pipe: span(100, 401), Casing: span(400, 500)}, api.ErrOrder}, {api.Shut{Gain: span(1, 1), Weight: 1, Depth: 1, Area: 1, Pipe: span(401, 401), Casing: span(400, 400)}, api.ErrOrder},
		{api.Shut{Gain: span(1, 1), Weight: 1, Depth: 1, Area: 1, Pipe: span(-1, 0)}, api.ErrRange}, {api.Shut{Gain: span(1, 1), Weight: 1, Depth: 1, Area: 1, Pipe: span(0, 1<<36+1), Casing: span(1<<36, 1<<36)}, api.ErrRange}, {api.Shut{Gain: span(1, 1), Weight: 1, Depth: 1, Area: 1, Casing: span(-5, 5)}, api.ErrRange},
	} {
		if _, e := kick.Identify(c.x); e != c.want {
			t.Error(i, e)
		}
	}
}
