package path_test

import (
	"slices"
	"testing"

	"moonpool/api"
	"moonpool/path"
)

// The borders of what is valid belong to it.

func TestP1_1BordersOfVectors(t *testing.T) {
	for i, c := range []struct {
		leg  api.Vec
		want api.Errno
	}{{at(-1<<24, 0, 0), api.ErrRange}, {at(-1<<24-1, 0, 0), api.ErrForm}, {at(0, 1<<24, 0), api.ErrRange}, {at(0, 1<<24+1, 0), api.ErrForm}, {at(0, 0, 1<<62), api.ErrForm}} {
		if e := path.Check(well(at(0, 0, 0), c.leg)); e != c.want {
			t.Error(i, e)
		}
	}
}

func TestP1_3BordersOfSources(t *testing.T) {
	var l []api.Source
	for id := range 4 {
		l = append(l, source(id+1, 2, at(-200, 200, -200)))
	}
	if e := path.CheckSources(bent(), l); e != api.OK {
		t.Error(e)
	}
	if e := path.CheckSources(bent(), append(l, source(5, 2, at(0, 0, 0)))); e != api.ErrFull {
		t.Error(e)
	}
	l[3].Per[1].Y = -201
	if e := path.CheckSources(bent(), l); e != api.ErrRange {
		t.Error(e)
	}
	// A path without legs has sources without vectors.
	if e := path.CheckSources(well(at(0, 0, 0)), []api.Source{{ID: 9}}); e != api.OK {
		t.Error(e)
	}
}

func TestP1_4BordersOfPaths(t *testing.T) {
	a := well(at(0, 0, 0), at(0, 0, 10000))
	b := well(at(500, 0, 0), at(0, 0, 10000))
	if path.Separate(a, nil, 0, b, nil, 1, 1) || path.Separate(a, nil, 0, b, nil, -1, 1) || path.Separate(a, nil, -1, b, nil, 0, 1) || path.Touches(a, nil, 0, b, nil, 2, 1) || path.Touches(a, nil, -1, b, nil, 0, 1) {
		t.Error("there are no such legs and joints")
	}
}

func TestP1_5NothingWithAnError(t *testing.T) {
	a, wrong := well(at(0, 0, 0), at(0, 0, 10000)), []api.Source{{}}
	for i, c := range []struct {
		la []api.Source
		r  int64
	}{{wrong, 5}, {nil, 0}} {
		if n, e := path.Known(a, c.la, a, nil, c.r); n != 0 || e == api.OK {
			t.Error(i, n, e)
		}
	}
	if n, e := path.Gap(a, nil, a, wrong); n != 0 || e != api.ErrOrder {
		t.Error(n, e)
	}
}

func TestP1_6BordersOfGoals(t *testing.T) {
	g := aim()
	g.Dirs = []api.Vec{at(0, 0, 100), at(0, 0, 4000), at(0, 60, 80), at(0, 80, 60), at(60, 0, 80), at(80, 0, 60), at(0, 0, 200), at(0, 0, 300)}
	g.Turn = api.Part{N: 1000, D: 1000}
	if e := path.CheckGoal(g); e != api.OK {
		t.Error(e)
	}
	g.Turn = api.Part{N: 0, D: 1}
	if e := path.CheckGoal(g); e != api.OK {
		t.Error(e)
	}
	for i, change := range []func(*api.Box){func(b *api.Box) { b.Lo.X = b.Hi.X + 1 }, func(b *api.Box) { b.Lo.Y = b.Hi.Y + 1 }, func(b *api.Box) { b.Lo.Z = b.Hi.Z + 1 }, func(b *api.Box) { b.Hi = api.Vec{X: -1 << 63, Y: 1<<63 - 1, Z: 1<<63 - 1} }} {
		x := aim()
		change(&x.Into)
		if e := path.CheckGoal(x); e != api.ErrRange {
			t.Error(i, e)
		}
	}
	wide := aim()
	wide.Into = api.Box{Lo: api.Vec{X: -1 << 63, Y: -1 << 63, Z: -1 << 63}, Hi: api.Vec{X: 1<<63 - 1, Y: 1<<63 - 1, Z: 1<<63 - 1}}
	// A path has at least one leg, wherever it begins.
	if p, e := path.Plan(at(0, 0, 0), at(0, 0, 1), wide); e != api.OK || !slices.Equal(p.Legs, []api.Vec{at(0, 0, 1000)}) {
		t.Error(p, e)
	}
	// With a turn of 0, directions of Dirs that are one and the same may follow each other.
	wide.Dirs, wide.Turn = []api.Vec{at(0, 0, 100), at(0, 0, 300)}, api.Part{N: 0, D: 1}
	wide.Mult, wide.Into = 1, api.Box{Lo: at(0, 0, 400), Hi: at(0, 0, 400)}
	if p, e := path.Plan(at(0, 0, 0), at(0, 0, 1), wide); e != api.OK || !slices.Equal(p.Legs, []api.Vec{at(0, 0, 100), at(0, 0, 300)}) {
		t.Error(p, e)
	}
}
