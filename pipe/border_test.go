package pipe_test

import (
	"slices"
	"testing"

	"moonpool/api"
	"moonpool/pipe"
)

// The borders of what is valid belong to it, and all that is broken is rounded outwards.

func TestP4_1Borders(t *testing.T) {
	longest := stringOf(tube(400, 2048, 1, 1, 2), tube(112, 2048, 1, 1, 2))
	if e, n := pipe.Check(longest), pipe.Length(longest); e != api.OK || n != 1<<20 {
		t.Error(e, n)
	}
	longest.Tubes[1].Len++
	if e := pipe.Check(longest); e != api.ErrLong {
		t.Error(e)
	}
	if w := pipe.Wet(api.Tube{Air: 0, Steel: 1}, 5); w != -5 {
		t.Error(w)
	}
	if w := pipe.Wet(api.Tube{Air: 7, Steel: 0}, 0); w != 7 {
		t.Error(w)
	}
	if w := pipe.Weight(drill(), 0); w != 48000000000 {
		t.Error(w)
	}
}

func TestP4_3LeastWetWeight(t *testing.T) {
	s := stringOf(tube(1, 100, 101, 1, 2))
	if e := pipe.CheckCase(s, api.Case{Mode: 1, Mud: 100}); e != api.OK {
		t.Error(e)
	}
	if e := pipe.CheckCase(s, api.Case{Mode: 1, Mud: 101}); e != api.ErrState {
		t.Error(e)
	}
}

func TestP4_3TheLeastTension(t *testing.T) {
	heavy := stringOf(tube(262, 4000, 4000000, 1, 10))
	up := api.Path{From: at(0, 0, 1<<20), Legs: slices.Repeat([]api.Vec{at(0, 0, -131000)}, 8)}
	bit := int64(1<<42 - 4192000000000)
	if l, e := pipe.Loads(heavy, up, pull(api.ModeDown, 0, 0, bit)); e != api.OK || l[7].Tension != span(-1<<42, -1<<42) {
		t.Error(l, e)
	}
	if _, e := pipe.Loads(heavy, up, pull(api.ModeDown, 0, 0, bit+1)); e != api.ErrRange {
		t.Error(e)
	}
}

func TestP4_3SpinInABend(t *testing.T) {
	// After the first piece the tension is from 71 to 72, or from -72 to -71. The drag is 0.6 times 0.816496.. of it: from 34 to 36.
	s := stringOf(tube(1, 107, 1, 1, 2), tube(1, 107, 1, 1, 2))
	p := well(at(0, 0, 107), at(100, 200, 200))
	for bit, tension := range map[int64]api.Range{0: span(71, 72), 143: span(-72, -71)} {
		l, e := pipe.Loads(s, p, pull(api.ModeSpin, 600, 600, bit))
		if e != api.OK || l[0].Tension != tension || l[0].Torque != span(47, 48) || l[1].Torque != span(47+34, 48+36) {
			t.Error(bit, l, e)
		}
	}
}

func TestP4_3PressIsRoundedUp(t *testing.T) {
	// The press is 527.9, so that the friction is 528 times 0.36, which is 190.1.
	s, p := stringOf(tube(1, 101, 7, 1, 3)), api.Path{From: at(0, 0, 1000), Legs: []api.Vec{at(100, 200, -200)}}
	if l, e := pipe.Loads(s, p, pull(api.ModeUp, 333, 360, 0)); e != api.OK || l[0].Tension != span(-472+174, -471+191) {
		t.Error(l, e)
	}
}

func TestP4_4CriticalForces(t *testing.T) {
	slanted := well(at(100, 200, 200))
	soft := stringOf(tube(1, 300, 301, 1, 2))
	soft.Tubes[0].Stiff = 6000
	// 301 times 223 / 300 is 223.7, rounded down; 1000 times 223 has the root 472.2.
	for bit, want := range map[int64][]int{472000: nil, 472001: {0}, 472999: {0}} {
		if l, e := pipe.Buckles(soft, slanted, pull(api.ModeDown, 0, 0, bit), 50); e != api.OK || !slices.Equal(l, want) {
			t.Error(bit, l, e)
		}
	}
	// 1 times 223 / 300 is rounded to nothing, so nothing holds it.
	stiff := stringOf(tube(1, 300, 1, 1, 2))
	stiff.Tubes[0].Stiff = 1 << 34
	if l, e := pipe.Buckles(stiff, slanted, pull(api.ModeDown, 0, 0, 1), 50); e != api.OK || !slices.Equal(l, []int{0}) {
		t.Error(l, e)
	}
	// It may be the load after a piece that buckles it: in a leg that goes up.
	up := api.Path{From: at(0, 0, 1000), Legs: []api.Vec{at(100, 200, -200)}}
	if l, e := pipe.Buckles(soft, up, pull(api.ModeDown, 0, 0, 471999), 50); e != api.OK || !slices.Equal(l, []int{0}) {
		t.Error(l, e)
	}
}

func TestP4_5Borders(t *testing.T) {
	var table []api.Row
	for i := range int64(8) {
		table = append(table, api.Row{Turn: api.Part{N: i, D: 10}, Turns: 1 << 30 >> i})
	}
	if e := pipe.CheckTable(table); e != api.OK {
		t.Error(e)
	}
	s := drill()
	s.Tubes[1].Used = 1<<40 - 1000000000
	one := []api.Row{{Turn: api.Part{N: 1, D: 5}, Turns: 1}}
	if got, e := pipe.Turn(s, bent(), one, 1); e != api.OK || got.Tubes[1].Used != 1<<40 {
		t.Error(got, e)
	}
	s.Tubes[1].Used++
	if _, e := pipe.Turn(s, bent(), one, 1); e != api.ErrFull {
		t.Error(e)
	}
	if got, e := pipe.Turn(drill(), bent(), []api.Row{{Turn: api.Part{N: 1, D: 5}, Turns: 1 << 30}}, 1<<20); e != api.OK || got.Tubes[1].Used != 976563 {
		t.Error(got, e)
	}
}

func TestP4_6TheFirstErrorIsThatOfTheString(t *testing.T) {
	if _, e := pipe.Add(stringOf(tube(400, 4000, 1, 1, 2)), api.Tube{}); e != api.ErrLong {
		t.Error(e)
	}
}
