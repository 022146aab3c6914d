package rig_test

import (
	"slices"
	"testing"

	"moonpool/api"
	"moonpool/rig"
)

// The borders of what is valid belong to it.

func TestP8_3Moves(t *testing.T) {
	for _, n := range is(-2, 2, -1<<63, 1<<63-1) {
		if _, e := rig.Step(r(), is(2, 2), is(0, n), nil); e != api.ErrForm {
			t.Error(n, e)
		}
		if ok, ban := rig.Allowed(r(), is(2, 2), is(n, 0)); ok || ban != -1 {
			t.Error(n, ok, ban)
		}
		if _, _, e := rig.Merge(r(), is(2, 2), []api.Request{{Machine: 1, Move: n}}); e != api.ErrRange {
			t.Error(n, e)
		}
	}
	if m, taken, e := rig.Merge(r(), is(2, 2), []api.Request{{Machine: 1, Move: -1, Rank: 99}}); e != api.OK || !slices.Equal(m, is(0, -1)) || !slices.Equal(taken, is(0)) {
		t.Error(m, taken, e)
	}
}

func TestP8_7BordersOfRams(t *testing.T) {
	// The bit is in the ram at the place 0 of the hoist, and above it at all others.
	want := []api.Ban{{A: 0, B: 3, BLo: 7, BHi: 7}}
	for i, x := range []api.Ram{{Faces: 0, Step: 1, Near: 0}, {Faces: 0, Step: 4000, Near: 100}} {
		if l, e := rig.Shear(x, stand(4, 1000), 0, 2, 3, api.Span{Lo: 7, Hi: 7}); e != api.OK || !slices.Equal(l, want) {
			t.Error(i, l, e)
		}
	}
	if l, e := rig.Shear(api.Ram{Faces: 1 << 20, Step: 1, Near: 0}, stand(4, 1000), 0, 2, 3, api.Span{Lo: 7, Hi: 7}); e != api.OK || l != nil {
		t.Error(l, e)
	}
}

func TestP8_5TheLongestSpell(t *testing.T) {
	// The bans leave a way back and forth: machine 1 has to go to one end for each step of machine 0.
	x := api.Rig{Places: is(8, 8)}
	for i := range 7 {
		keep := 7 * (i % 2)
		for _, part := range []api.Span{{Lo: 0, Hi: keep - 1}, {Lo: keep + 1, Hi: 7}} {
			if part.Lo <= part.Hi {
				x.Bans = append(x.Bans, api.Ban{A: 0, ALo: i, AHi: i, B: 1, BLo: part.Lo, BHi: part.Hi})
			}
		}
	}
	if e := rig.Check(x); e != api.OK {
		t.Fatal(e)
	}
	// Between two places of machine 0 machine 1 would have to be at both ends.
	if _, e := rig.Ticks(x, is(0, 0), []api.Span{{Lo: 7, Hi: 7}, {Lo: 0, Hi: 7}}, 0); e != api.ErrLate {
		t.Error(e)
	}
	// Each second place of machine 0 is free for all of machine 1: six steps, and three times seven ticks between them.
	x.Bans = nil
	for i := range 4 {
		keep := 7 * (i % 2)
		part := api.Span{Lo: 0, Hi: keep - 1}
		if keep == 0 {
			part = api.Span{Lo: 1, Hi: 7}
		}
		x.Bans = append(x.Bans, api.Ban{A: 0, ALo: 2 * i, AHi: 2 * i, B: 1, BLo: part.Lo, BHi: part.Hi})
	}
	if n, e := rig.Ticks(x, is(0, 0), []api.Span{{Lo: 6, Hi: 6}, {Lo: 0, Hi: 7}}, 0); n != 6+3*7 || e != api.OK {
		t.Error(n, e)
	}
	// Machine 2 likewise needs machine 0 at the one end or the other: each way of that takes 27 ticks.
	x.Places = is(8, 8, 8)
	for i := range 4 {
		keep := 6 * (i % 2)
		for _, part := range []api.Span{{Lo: 0, Hi: keep - 1}, {Lo: keep + 1, Hi: 7}} {
			if part.Lo <= part.Hi {
				x.Bans = append(x.Bans, api.Ban{A: 0, ALo: part.Lo, AHi: part.Hi, B: 2, BLo: 2 * i, BHi: 2 * i})
			}
		}
	}
	for place, want := range map[int]int{4: 58, 5: 59, 6: 0} {
		goal := []api.Span{{Lo: 0, Hi: 7}, {Lo: 0, Hi: 7}, {Lo: place, Hi: place}}
		for losses := range 3 {
			n, e := rig.Ticks(x, is(0, 0, 0), goal, losses)
			if want == 0 && (n != 0 || e != api.ErrLate) || want > 0 && (n != want+losses || e != api.OK) {
				t.Error(place, losses, n, e)
			}
		}
	}
}
