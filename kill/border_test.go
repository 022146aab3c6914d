package kill_test

import (
	"slices"
	"testing"

	"moonpool/api"
	"moonpool/kill"
)

// The borders of what is valid belong to it, and all that is broken is rounded outwards.

func TestP7_1Borders(t *testing.T) {
	w := well()
	w.Weight, w.Limit, w.Pipe, w.Step = 0, 0, 0, 1
	w.Points = nil
	for i := range int64(8) {
		w.Points = append(w.Points, api.Knot{At: i})
	}
	if e := kill.Check(w); e != api.OK {
		t.Error(e)
	}
	w.Weight, w.Limit, w.Pipe, w.Step, w.Points = 40000, 1<<36, 1<<40, 10000000, nil
	if e := kill.Check(w); e != api.OK {
		t.Error(e)
	}
}

func TestP7_2OddPlaces(t *testing.T) {
	w, x := odd(), api.Program{Kind: api.KillWait, Weight: 130, Margin: 20}
	// A point at just the place up to which there is kill mud: [5] is 1 to 2.
	w.Points = []api.Knot{{At: 5, V: 1 << 36}}
	if m, e := kill.At(w, x, api.Bubble{Volume: 40, Pore: 5000}, 1, 0); e != api.OK || !slices.Equal(m.Points, []api.Range{span(5020-260, 5020-130)}) {
		t.Error(m, e)
	}
	// More gas: its top is from 106 (12 to 13) to 114 (13 to 14).
	if m, e := kill.At(w, x, api.Bubble{Volume: 80, Pore: 5000}, 2, 0); e != api.OK || m.Gas != span(86, 94) || m.Surface != span(m.Base.Lo-600, m.Base.Hi-400) {
		t.Error(m, e)
	}
	// A base that is below 1 counts as 1.
	heavy := w
	heavy.Weight = 4000
	if m, e := kill.At(heavy, api.Program{Kind: api.KillDriller}, api.Bubble{Volume: 40, Pore: 5000}, 17, 0); e != api.OK || m.Base.Hi >= 0 || m.Gas != span(200000, 200000) {
		t.Error(m, e)
	}
	// Bull: the gas is from 30 (7) to 31 (7 to 8), the kill mud begins at 160 (17 to 18).
	x.Kind = api.KillBull
	if m, e := kill.At(w, x, api.Bubble{Volume: 41, Pore: 5000}, 1, 0); e != api.OK || m.Gas != span(30, 31) || m.Surface != span(5020-1100-130, 5020-900) {
		t.Error(m, e)
	}
	// All is kill mud.
	for _, step := range []int{17, 18, 400} {
		if m, e := kill.At(w, x, api.Bubble{Volume: 41, Pore: 5000}, step, 0); e != api.OK || m.Gas != span(0, 0) || m.Surface != span(5020-18*130, 5020-18*130) {
			t.Error(step, m, e)
		}
	}
}

func TestP7_2LastStepsAtBorders(t *testing.T) {
	w := odd()
	w.Weight = 0
	for i, c := range []struct {
		p    api.Program
		k    api.Bubble
		step int64
		want int
	}{
		// 20 and 150 are the whole hole, 170; with a margin the gas is from 149 to 150.
		{api.Program{Kind: api.KillDriller}, api.Bubble{Volume: 150, Pore: 5000}, 10, 2}, {api.Program{Kind: api.KillDriller, Margin: 20}, api.Bubble{Volume: 150, Pore: 5000}, 10, 2}, {api.Program{Kind: api.KillDriller}, api.Bubble{Volume: 149, Pore: 5000}, 10, 3}, {api.Program{Kind: api.KillWait}, api.Bubble{Volume: 170, Pore: 5000}, 10, 0},
		// The gas is from 39 to 40.
		{api.Program{Kind: api.KillBull, Margin: 20}, api.Bubble{Volume: 40, Pore: 5000}, 39, 2}, {api.Program{Kind: api.KillBull, Margin: 20}, api.Bubble{Volume: 40, Pore: 5000}, 40, 1},
		// With the error -1 the pressure is less, and the gas is more: from 40 to 41.
		{api.Program{Kind: api.KillBull, Margin: 20, Err: 100}, api.Bubble{Volume: 40, Pore: 5000}, 40, 2},
	} {
		w.Step = c.step
		if n, ok := kill.Last(w, c.p, c.k); n != c.want || !ok {
			t.Error(i, n, ok)
		}
	}
}

func TestP7_5Borders(t *testing.T) {
	light := p()
	light.Weight = 0
	l := append(slices.Repeat([]api.Program{light}, 7), p())
	if n, e := kill.Choose(well(), l, []int64{1000000}, []int64{1250000000}); n != 7 || e != api.OK {
		t.Error(n, e)
	}
	if n, e := kill.Tolerance(well(), p(), 1250000000, 1<<16, 64); n < 1 || e != api.OK {
		t.Error(n, e)
	}
	if n, e := kill.Tolerance(api.Well{}, p(), 1, 1, 1); n != 0 || e != api.ErrShort {
		t.Error(n, e)
	}
	// At 1 the lists have numbers that a kick has.
	if _, _, e := kill.Verify(well(), p(), []int64{1, 1 << 24}, []int64{1, 1 << 34}); e != api.OK {
		t.Error(e)
	}
}
