package kick_test

import (
	"math/rand"
	"slices"
	"testing"

	"moonpool/api"
	"moonpool/kick"
)

func randomSensor(r *rand.Rand) api.Sensor {
	return api.Sensor{Channel: 1 + r.Intn(2), Period: 1 + r.Int63n(12), Delay: r.Int63n(9), Noise: r.Int63n(4), Step: 1 + r.Int63n(50), Lost: r.Int63n(3), Limit: 1 + r.Int63n(3000), Hold: 1 + r.Int63n(3)}
}

func randomKick(r *rand.Rand) api.Kick { return api.Kick{Rate: r.Int63n(200), Grow: r.Int63n(20)} }

// possible makes possible samples of a kick that began at a tick, up to another one.
func possible(r *rand.Rand, s api.Sensor, k api.Kick, begin, to int64) []api.Sample {
	var l []api.Sample
	phase, gone := r.Int63n(s.Period), int64(0)
	for tick := phase; tick <= to && len(l) < 200; tick += s.Period {
		if gone < s.Lost && r.Intn(2) == 0 {
			gone++
			continue
		}
		gone = 0
		e := -s.Noise
		if r.Intn(4) == 0 {
			e = r.Int63n(2*s.Noise+1) - s.Noise
		}
		l = append(l, sample(0, tick, kick.Value(s, k, tick-begin, e)))
	}
	return l
}

func TestP6_7Detection(t *testing.T) {
	r := rand.New(rand.NewSource(67))
	slow := 0
	for range 2000 {
		s, x := randomSensor(r), randomKick(r)
		late, ok := kick.Late(s, x)
		if !ok {
			continue
		}
		begin := r.Int63n(50)
		l := possible(r, s, x, begin, begin+late)
		if !kick.Possible(s, x, begin, l) {
			t.Fatal("they are possible", s, x, begin, l)
		}
		if last := len(l) - 1; last == 199 && l[last].Tick < begin+late-s.Period*(s.Lost+2) {
			continue // too many samples to go on until the latest alarm
		}
		alarm, ok, e := kick.Watch([]api.Sensor{s}, l)
		if e != api.OK || !ok || alarm.Tick > begin+late {
			t.Fatal(s, x, begin, late, alarm, ok, e)
		}
		if l, ok := kick.Slow(s, x); ok {
			slow++
			alarm, noticed, e := kick.Watch([]api.Sensor{s}, l)
			if e != api.OK || !noticed || alarm.Tick != late || !kick.Possible(s, x, 0, l) {
				t.Fatal(s, x, late, alarm, l)
			}
		}
	}
	if slow < 300 {
		t.Error(slow)
	}
}

func TestP6_8GreaterKicksAndBetterSensors(t *testing.T) {
	r := rand.New(rand.NewSource(68))
	for range 1000 {
		s, x := randomSensor(r), randomKick(r)
		late, ok := kick.Late(s, x)
		if !ok {
			continue
		}
		greater := api.Kick{Rate: x.Rate + r.Int63n(50), Grow: x.Grow + r.Int63n(9)}
		if n, ok := kick.Late(s, greater); !ok || n > late {
			t.Fatal(s, x, greater, n, late)
		}
		better := s
		better.Limit, better.Hold, better.Lost = 1+r.Int63n(s.Limit), 1+r.Int63n(s.Hold), r.Int63n(s.Lost+1)
		better.Delay, better.Noise = r.Int63n(s.Delay+1), r.Int63n(s.Noise+1)
		if n, ok := kick.Late(better, x); !ok || n > late {
			t.Fatal(s, better, x, n, late)
		}
		other := randomSensor(r)
		set := api.Kicks{Rate: span(x.Rate, greater.Rate), Grow: span(x.Grow, greater.Grow)}
		all, e := kick.Latest([]api.Sensor{s, other}, set)
		first, _, err := kick.Caught([]api.Sensor{s, other}, x)
		if e != api.OK || err != api.OK || all != first || all > late {
			t.Fatal(all, first, late)
		}
		one := api.Kick{Rate: x.Rate + r.Int63n(greater.Rate-x.Rate+1), Grow: x.Grow + r.Int63n(greater.Grow-x.Grow+1)}
		if n, g, e := kick.Caught([]api.Sensor{other, s}, one); e != api.OK || n > all || g != kick.Gain(one, n) {
			t.Fatal(one, n, g, e)
		}
	}
}

// sequences yields all sequences of errors.
func sequences(noise int64, draws int) [][]int64 {
	all := [][]int64{nil}
	for range draws {
		var longer [][]int64
		for _, l := range all {
			for e := -noise; e <= noise; e++ {
				longer = append(longer, append(slices.Clone(l), e))
			}
		}
		all = longer
	}
	return all
}

func TestP6_9FalseAlarms(t *testing.T) {
	r := rand.New(rand.NewSource(69))
	for range 60 {
		s := api.Sensor{Channel: 1, Period: 1, Noise: r.Int63n(3), Step: 1 + r.Int63n(5), Limit: 1 + r.Int63n(9), Hold: 1 + r.Int63n(3)}
		part, of := int64(0), int64(1)
		for draws := 1; draws <= 5; draws++ {
			count := int64(0)
			all := sequences(s.Noise, draws)
			for _, l := range all {
				var samples []api.Sample
				for i, e := range l {
					samples = append(samples, sample(0, int64(i), e*s.Step))
				}
				if _, ok, _ := kick.Watch([]api.Sensor{s}, samples); ok {
					count++
				}
			}
			n, m, e := kick.False(s, draws)
			if e != api.OK || n != count || m != int64(len(all)) || s.Limit > s.Noise*s.Step && n > 0 || n*of < part*m {
				t.Fatal(s, draws, n, m, e, count)
			}
			part, of = n, m
		}
	}
}

func TestP6_10GainIsTheSumOfFlows(t *testing.T) {
	r := rand.New(rand.NewSource(610))
	for range 50 {
		x, sum := randomKick(r), int64(0)
		for n := int64(0); n < 200; n++ {
			if kick.Gain(x, n) != sum {
				t.Fatal(x, n)
			}
			sum += kick.Flow(x, n)
		}
	}
}

func TestP6_11IdentifyEncloses(t *testing.T) {
	r := rand.New(rand.NewSource(611))
	wide := func(lo, most int64) api.Range { return span(lo, lo+r.Int63n(most)) }
	within := func(outer api.Range) api.Range {
		lo := outer.Lo + r.Int63n(outer.Hi-outer.Lo+1)
		return span(lo, lo+r.Int63n(outer.Hi-lo+1))
	}
	inside := func(a, b api.Range) bool { return a.Lo >= b.Lo && a.Hi <= b.Hi }
	for range 1000 {
		x := api.Shut{Weight: 1 + r.Int63n(20000), Depth: 1 + r.Int63n(5000), Area: 1 + r.Int63n(50)}
		x.Pipe = wide(r.Int63n(5000), 300)
		x.Casing = wide(x.Pipe.Hi+r.Int63n(5000), 300)
		x.Gain = wide(x.Area+r.Int63n(3000), 300)
		y := x
		y.Pipe, y.Casing, y.Gain = within(x.Pipe), within(x.Casing), within(x.Gain)
		outer, e := kick.Identify(x)
		inner, err := kick.Identify(y)
		if e != api.OK || err != api.OK || !inside(inner.Pore, outer.Pore) || !inside(inner.Height, outer.Height) || !inside(inner.Weight, outer.Weight) {
			t.Fatal(x, y, outer, inner, e, err)
		}
		if outer.Kind != api.InfluxOpen && inner.Kind != outer.Kind {
			t.Fatal(outer, inner)
		}
		// For single values: weight is Weight - (casing - pipe) Area / gain.
		p, c, g := y.Pipe.Lo, y.Casing.Hi, y.Gain.Lo
		if drop := (c - p) * x.Area; outer.Weight.Lo*g > x.Weight*g-drop || outer.Weight.Hi*g < x.Weight*g-drop {
			t.Fatal(x, p, c, g, outer)
		}
		if outer.Height.Lo*x.Area > g || outer.Height.Hi*x.Area < g {
			t.Fatal(x, g, outer)
		}
	}
}

func TestP6_12AlarmsDependOnNothingElse(t *testing.T) {
	r := rand.New(rand.NewSource(612))
	for range 500 {
		sensors := []api.Sensor{randomSensor(r), randomSensor(r), randomSensor(r)}
		var l, m []api.Sample
		ticks := [3]int64{}
		for range 30 {
			n := r.Intn(3)
			ticks[n] += 1 + r.Int63n(9)
			l = append(l, sample(n, ticks[n], r.Int63n(3500)))
		}
		for n := range 3 {
			for _, x := range l {
				if x.Sensor == n {
					m = append(m, x)
				}
			}
		}
		alarm, ok, _ := kick.Watch(sensors, l)
		again, good, e := kick.Watch(sensors, m)
		if e != api.OK || alarm != again || ok != good {
			t.Fatal(alarm, again)
		}
		if !ok {
			continue
		}
		later := append(slices.Clone(l), sample(0, 5000, 1<<50), sample(1, 5000, 0), sample(2, 5000, 1<<40))
		if after, ok, e := kick.Watch(sensors, later); e != api.OK || !ok || after != alarm {
			t.Fatal(alarm, after)
		}
	}
}

func TestP1AnyArguments(t *testing.T) {
	wild := []int64{-1 << 63, 1<<63 - 1, -1, 0, 1, 1 << 40, 1 << 24}
	for _, x := range wild {
		for _, y := range wild {
			z := api.Kick{Rate: x, Grow: y}
			s := api.Sensor{Channel: 1, Period: x, Delay: y, Noise: x, Step: y, Lost: x, Limit: y, Hold: x}
			kick.Flow(z, y)
			kick.Gain(k(), x)
			kick.CheckKicks(api.Kicks{Rate: span(x, y), Grow: span(y, x)})
			kick.CheckSensor(s)
			kick.Value(a(), z, x, y)
			kick.Watch([]api.Sensor{a()}, []api.Sample{sample(int(x), y, x), sample(0, x, y)})
			kick.Possible(a(), z, x, []api.Sample{sample(int(y), x, y)})
			kick.Possible(a(), k(), 5, []api.Sample{sample(int(y), x, y)})
			kick.Late(a(), z)
			kick.Slow(a(), z)
			kick.False(a(), int(x))
			kick.Identify(api.Shut{Pipe: span(x, y), Casing: span(y, x), Gain: span(x, x), Weight: y, Depth: x, Area: y})
		}
	}
}
