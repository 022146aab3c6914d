package path_test

import (
	"math/bits"
	"math/rand"
	"slices"
	"testing"

	"moonpool/api"
	"moonpool/path"
)

func at(x, y, z int64) api.Vec { return api.Vec{X: x, Y: y, Z: z} }

func well(from api.Vec, legs ...api.Vec) api.Path { return api.Path{From: from, Legs: legs} }

// bent is the path P of the chapter's examples, straight its path Q.
func bent() api.Path     { return well(at(0, 0, 0), at(0, 0, 50000), at(0, 30000, 40000)) }
func straight() api.Path { return well(at(10000, 0, 0), at(0, 0, 100000)) }

// source has the same vector for each leg.
func source(id, legs int, d api.Vec) api.Source {
	return api.Source{ID: id, Per: slices.Repeat([]api.Vec{d}, legs)}
}

// someLegs are vectors with whole lengths that may follow each other in many ways.
func someLegs() []api.Vec {
	return []api.Vec{at(0, 0, 1000), at(0, 600, 800), at(600, 0, 800), at(-600, 0, 800), at(200, 300, 600), at(-300, 600, 200), at(0, 800, 600), at(480, 640, 600)}
}

// randomPath makes a valid path with so many legs.
func randomPath(r *rand.Rand, legs int) api.Path {
	p := well(at(r.Int63n(3000), r.Int63n(3000), 50000+r.Int63n(3000)))
	all := someLegs()
	for len(p.Legs) < legs {
		d, k := all[r.Intn(len(all))], 1+r.Int63n(8)
		q := well(p.From, append(slices.Clone(p.Legs), at(d.X*k, d.Y*k, d.Z*k))...)
		if path.Check(q) == api.OK {
			p = q
		}
	}
	return p
}

func randomSources(r *rand.Rand, legs, n, most int) []api.Source {
	var l []api.Source
	for i := range n {
		s := api.Source{ID: 1 + 2*i + r.Intn(2)}
		for range legs {
			s.Per = append(s.Per, at(r.Int63n(int64(2*most+1))-int64(most), r.Int63n(int64(2*most+1))-int64(most), r.Int63n(int64(2*most+1))-int64(most)))
		}
		l = append(l, s)
	}
	return l
}

func TestP1_1Root(t *testing.T) {
	for n, want := range map[int64]int64{0: 0, 1: 1, 4: 2, 1 << 50: 1 << 25, (1<<25 - 1) * (1<<25 - 1): 1<<25 - 1} {
		if r, ok := path.Root(n); r != want || !ok {
			t.Error(n, r, ok)
		}
	}
	for _, n := range []int64{-1, -4, 2, 1<<50 - 1, 1<<50 + 1, (1<<25 + 1) * (1<<25 + 1), -1 << 63, 1<<63 - 1} {
		if r, ok := path.Root(n); r != 0 || ok {
			t.Error(n, r, ok)
		}
	}
}

func TestP1_1Check(t *testing.T) {
	zero := at(0, 0, 0)
	for i, c := range []struct {
		p    api.Path
		want api.Errno
	}{
		{bent(), api.OK}, {straight(), api.OK}, {well(zero), api.OK},
		{well(zero, at(1, 2, 3)), api.ErrForm},
		{well(zero, at(0, 0, 500), at(500, 0, 0)), api.ErrClash},
		{well(zero, at(0, 0, 99)), api.ErrRange},
		{well(zero, at(0, 0, 100)), api.OK},
		{well(zero, at(0, 0, 1<<17)), api.OK},
		{well(zero, at(0, 0, 1<<17+1)), api.ErrRange},
		{well(zero, at(0, 0, 1<<24+1)), api.ErrForm},
		{well(zero, at(-1<<63, 0, 0)), api.ErrForm},
		{well(at(0, 0, 1<<20), at(0, 0, 100)), api.ErrRange},
		{well(at(-1<<20-1, 0, 0)), api.ErrRange},
		{well(at(0, 0, -1), at(1, 2, 3)), api.ErrRange},
		{well(at(0, 0, -1), slices.Repeat([]api.Vec{at(0, 0, 100)}, 21)...), api.ErrLong},
		{well(zero, slices.Repeat([]api.Vec{at(0, 0, 100)}, 20)...), api.OK},
		{well(zero, at(0, 0, 99), at(1, 2, 3)), api.ErrRange},
		{well(zero, at(0, 0, 500), at(0, 0, -400)), api.ErrClash},
	} {
		if e := path.Check(c.p); e != c.want {
			t.Error(i, e, c.want)
		}
	}
}

func TestP1_1Places(t *testing.T) {
	p := bent()
	if n := path.Length(p); n != 100000 {
		t.Error(n)
	}
	if l := path.Joints(p); !slices.Equal(l, []api.Vec{at(0, 0, 0), at(0, 0, 50000), at(0, 30000, 90000)}) {
		t.Error(l)
	}
	if l := path.Vert(p); !slices.Equal(l.Knots, []api.Knot{{}, {At: 50000, V: 50000}, {At: 100000, V: 90000}}) {
		t.Error(l)
	}
	for _, c := range []struct {
		d    int64
		want api.Vec
		ok   bool
	}{{50000, at(0, 0, 50000), true}, {75000, at(0, 15000, 70000), true}, {75001, at(0, 15000, 70000), true}, {0, at(0, 0, 0), true}, {100000, at(0, 30000, 90000), true}, {100001, at(0, 0, 0), false}, {-1, at(0, 0, 0), false}} {
		if v, ok := path.At(p, c.d); v != c.want || ok != c.ok {
			t.Error(c.d, v, ok)
		}
	}
	// Components that fall are rounded down, too.
	if v, _ := path.At(well(at(0, 0, 500), at(-60, 0, -80)), 1); v != at(-1, 0, 499) {
		t.Error(v)
	}
	if v, ok := path.At(well(at(5, 6, 7)), 0); v != at(5, 6, 7) || !ok {
		t.Error(v, ok)
	}
	bad := well(at(0, 0, 0), at(1, 2, 3))
	if _, ok := path.At(bad, 0); ok || path.Length(bad) != 0 || path.Joints(bad) != nil || path.Vert(bad).Knots != nil {
		t.Error("a path that is not valid")
	}
}

func TestP1_2Turn(t *testing.T) {
	for i, c := range []struct {
		v, w api.Vec
		want api.Part
		e    api.Errno
	}{
		{at(0, 0, 50000), at(0, 30000, 40000), api.Part{N: 1, D: 5}, api.OK},
		{at(3, 0, 4), at(6, 0, 8), api.Part{N: 0, D: 1}, api.OK},
		{at(0, 0, 2), at(0, 0, -7), api.Part{N: 2, D: 1}, api.OK},
		{at(0, 0, 2), at(0, 7, 0), api.Part{N: 1, D: 1}, api.OK},
		{at(0, 0, 0), at(0, 7, 0), api.Part{}, api.ErrForm},
		{at(0, 7, 0), at(1, 1, 1), api.Part{}, api.ErrForm},
		{at(0, 7, 0), at(0, 0, 1<<17), api.Part{N: 1, D: 1}, api.OK},
		{at(0, 7, 0), at(0, 0, 1<<17+1), api.Part{}, api.ErrForm},
		{at(-1<<63, 0, 0), at(0, 0, 1), api.Part{}, api.ErrForm},
	} {
		if p, e := path.Turn(c.v, c.w); p != c.want || e != c.e {
			t.Error(i, p, e)
		}
	}
	for i, c := range []struct {
		p    api.Path
		want api.Part
	}{{bent(), api.Part{N: 1, D: 5}}, {straight(), api.Part{N: 0, D: 1}}, {well(at(0, 0, 0)), api.Part{N: 0, D: 1}}, {well(at(0, 0, -1)), api.Part{}}, {well(at(0, 0, 0), at(0, 0, 100), at(0, 300, 400), at(0, 400, 300)), api.Part{N: 1, D: 5}}} {
		if s := path.Steepest(c.p); s != c.want {
			t.Error(i, s)
		}
	}
}

// TestP1_2SteepestOfLongLegs has turns whose products do not fit into 64 bits.
func TestP1_2SteepestOfLongLegs(t *testing.T) {
	slanted := func(m, n int64) api.Vec { return at(2*m*n, 0, m*m-n*n) }
	turned := func(m, n int64) api.Vec { return at(0, 2*m*n, m*m-n*n) }
	great := 0
	for n := int64(120); n < 133; n++ {
		p := well(at(0, 0, 0), slanted(331, 131), turned(337, n), slanted(329, 130))
		first, _ := path.Turn(p.Legs[0], p.Legs[1])
		second, _ := path.Turn(p.Legs[1], p.Legs[2])
		high, low := bits.Mul64(uint64(first.N), uint64(second.D))
		top, rest := bits.Mul64(uint64(second.N), uint64(first.D))
		want := first
		if high < top || high == top && low < rest {
			want = second
		}
		if high > 0 {
			great++
		}
		if path.Steepest(p) != want {
			t.Error(n, first, second, path.Steepest(p))
		}
	}
	if great == 0 {
		t.Error("no product is great")
	}
}

func TestP1_3Sources(t *testing.T) {
	p := bent()
	good := source(1, 2, at(100, 0, 0))
	for i, c := range []struct {
		l    []api.Source
		want api.Errno
	}{
		{nil, api.OK}, {[]api.Source{good, source(99, 2, at(-200, 200, 0))}, api.OK},
		{make([]api.Source, 5), api.ErrFull},
		{[]api.Source{source(0, 2, at(0, 0, 0))}, api.ErrOrder},
		{[]api.Source{source(100, 2, at(0, 0, 0))}, api.ErrOrder},
		{[]api.Source{good, good}, api.ErrOrder},
		{[]api.Source{source(1, 1, at(0, 0, 0))}, api.ErrForm},
		{[]api.Source{source(1, 2, at(0, 0, 201))}, api.ErrRange},
		{[]api.Source{source(1, 2, at(-1<<63, 0, 0))}, api.ErrRange},
		// What the vectors lack is found source by source, but only after the order of all IDs.
		{[]api.Source{source(1, 2, at(0, 0, 201)), source(2, 1, at(0, 0, 0))}, api.ErrRange},
		{[]api.Source{source(1, 1, at(0, 0, 0)), source(2, 2, at(0, 0, 201))}, api.ErrForm},
		{[]api.Source{source(1, 1, at(0, 0, 201))}, api.ErrForm},
		{[]api.Source{source(1, 2, at(0, 0, 201)), source(1, 1, at(0, 0, 0))}, api.ErrOrder},
		{[]api.Source{source(1, 1, at(0, 0, 0)), source(1, 2, at(0, 0, 0))}, api.ErrOrder},
		{[]api.Source{source(1, 2, at(0, 0, 201)), source(0, 2, at(0, 0, 0))}, api.ErrOrder},
		{[]api.Source{source(1, 3, at(0, 0, 0)), source(2, 2, at(201, 0, 0)), source(100, 2, at(0, 0, 0))}, api.ErrOrder},
		{slices.Repeat([]api.Source{source(0, 1, at(0, 0, 201))}, 5), api.ErrFull},
	} {
		if e := path.CheckSources(p, c.l); e != c.want {
			t.Error(i, e, c.want)
		}
	}
	if e := path.CheckSources(well(at(0, 0, -1)), make([]api.Source, 5)); e != api.ErrRange {
		t.Error(e)
	}
	l := []api.Source{good, {ID: 7, Per: []api.Vec{at(1, 2, 3), at(-5, 4, 3)}}}
	if s := path.Shifts(p, l, 2); !slices.Equal(s, []api.Vec{at(200, 0, 0), at(-4, 6, 6)}) {
		t.Error(s)
	}
	if path.Shifts(p, l, 3) != nil || path.Shifts(p, l, -1) != nil || path.Shifts(p, []api.Source{good, good}, 1) != nil {
		t.Error("shifts of nothing")
	}
}

func TestP1_3Where(t *testing.T) {
	p, l := bent(), []api.Source{source(1, 2, at(100, 0, 0))}
	b, e := path.Where(p, l, 2)
	if e != api.OK || b != (api.Box{Lo: at(-200, 30000, 90000), Hi: at(200, 30000, 90000)}) {
		t.Error(b, e)
	}
	v, e := path.Actual(p, l, []int64{500}, 2)
	if e != api.OK || v != at(100000, 30000000, 90000000) {
		t.Error(v, e)
	}
	if _, e := path.Where(p, l, 3); e != api.ErrMissing {
		t.Error(e)
	}
	if _, e := path.Where(p, []api.Source{{}}, 3); e != api.ErrOrder {
		t.Error(e)
	}
	twice := []api.Source{source(1, 1, at(0, 0, 0)), source(1, 2, at(0, 0, 0))}
	if _, e := path.Where(p, twice, 3); e != api.ErrOrder {
		t.Error(e)
	}
	if _, e := path.Actual(p, twice, nil, 3); e != api.ErrOrder {
		t.Error(e)
	}
	for i, c := range []struct {
		c     []int64
		joint int
		want  api.Errno
	}{{nil, 1, api.ErrShort}, {nil, -1, api.ErrMissing}, {[]int64{1001}, 1, api.ErrRange}, {[]int64{-1001}, 1, api.ErrRange}, {[]int64{-1000, 5000}, 1, api.OK}} {
		if _, e := path.Actual(p, l, c.c, c.joint); e != c.want {
			t.Error(i, e)
		}
	}
}

func TestP1_4TouchesAndSeparate(t *testing.T) {
	a, b := well(at(0, 0, 0), at(0, 0, 10000)), well(at(500, 0, 0), at(0, 0, 10000))
	s := []api.Source{source(1, 1, at(100, 0, 0))}
	other := []api.Source{source(2, 1, at(100, 0, 0))}
	for i, c := range []struct {
		la, lb []api.Source
		i, j   int
		r      int64
		want   bool
	}{
		{nil, nil, 1, 1, 499, false}, {nil, nil, 1, 1, 500, true}, {nil, nil, 0, 1, 4000, false},
		{s, s, 1, 1, 499, false}, {s, s, 1, 1, 500, true}, {s, other, 1, 1, 299, false}, {s, other, 1, 1, 300, true},
		{nil, nil, 0, 0, 0, false}, {nil, nil, 0, 0, 4001, false}, {nil, nil, 2, 1, 4000, false}, {nil, nil, 1, -1, 4000, false},
		{[]api.Source{{}}, nil, 0, 0, 600, false},
	} {
		if got := path.Touches(a, c.la, c.i, b, c.lb, c.j, c.r); got != c.want {
			t.Error("touches", i, got)
		}
	}
	for i, c := range []struct {
		la, lb []api.Source
		i, j   int
		r      int64
		want   bool
	}{
		{nil, nil, 0, 0, 499, true}, {nil, nil, 0, 0, 500, false}, {s, s, 0, 0, 399, true}, {s, s, 0, 0, 400, false}, {s, other, 0, 0, 299, true}, {s, other, 0, 0, 300, false},
		{nil, nil, 1, 0, 1, false}, {nil, nil, 0, -1, 1, false}, {nil, nil, 0, 0, 0, false}, {nil, nil, 0, 0, -5, false}, {[]api.Source{{}}, nil, 0, 0, 1, false},
	} {
		if got := path.Separate(a, c.la, c.i, b, c.lb, c.j, c.r); got != c.want {
			t.Error("separate", i, got)
		}
	}
	if path.Separate(well(at(0, 0, -1), at(0, 0, 200)), nil, 0, b, nil, 0, 1) || path.Touches(well(at(0, 0, -1)), nil, 0, b, nil, 0, 1) {
		t.Error("a path that is not valid")
	}
}

func TestP1_5KnownAndGap(t *testing.T) {
	p, q := bent(), straight()
	s2, s1, t1 := []api.Source{source(1, 2, at(100, 0, 0))}, []api.Source{source(1, 1, at(100, 0, 0))}, []api.Source{source(2, 1, at(100, 0, 0))}
	if _, e := path.Known(p, s2, q, s1, 9700); e != api.ErrRange {
		t.Error(e)
	}
	if k, e := path.Known(p, s2, q, s1, 4000); k != api.Clear || e != api.OK {
		t.Error(k, e)
	}
	for i, l := range [][]api.Source{s1, t1} {
		if g, e := path.Gap(p, s2, q, l); g != 4000 || e != api.OK {
			t.Error(i, g, e)
		}
	}
	a, b := well(at(0, 0, 0), at(0, 0, 10000)), well(at(500, 0, 0), at(0, 0, 10000))
	for i, c := range []struct {
		la, lb []api.Source
		want   int64
	}{{s1, s1, 399}, {s1, t1, 299}, {nil, nil, 499}} {
		if g, e := path.Gap(a, c.la, b, c.lb); g != c.want || e != api.OK {
			t.Error(i, g, e)
		}
	}
	for i, c := range []struct {
		a, b api.Path
		r    int64
		want int
	}{
		{a, a, 1, api.Touch}, {well(at(0, 0, 0)), well(at(0, 0, 7)), 6, api.Clear}, {well(at(0, 0, 0)), well(at(0, 0, 7)), 7, api.Touch},
		// They cross in the middle, far from all joints.
		{well(at(0, 0, 0), at(0, 6000, 8000)), well(at(0, 6000, 0), at(0, -6000, 8000)), 1, api.Open},
	} {
		if k, e := path.Known(c.a, nil, c.b, nil, c.r); k != c.want || e != api.OK {
			t.Error(i, k, e)
		}
	}
	if g, e := path.Gap(well(at(0, 0, 0)), nil, a, nil); g != 4000 || e != api.OK {
		t.Error(g, e)
	}
	if g, e := path.Gap(a, nil, a, nil); g != 0 || e != api.OK {
		t.Error(g, e)
	}
	// The first source has vectors for no path here, but the order of the IDs is named before them.
	twice := []api.Source{source(1, 9, at(0, 0, 201)), source(1, 9, at(0, 0, 0))}
	for i, c := range []struct {
		la, lb []api.Source
		r      int64
		want   api.Errno
	}{
		{nil, nil, 0, api.ErrRange}, {[]api.Source{{}}, make([]api.Source, 5), 0, api.ErrOrder}, {nil, make([]api.Source, 5), 0, api.ErrFull},
		{twice, nil, 1, api.ErrOrder}, {nil, twice, 1, api.ErrOrder}, {twice[:1], twice, 1, api.ErrForm},
	} {
		if _, e := path.Known(a, c.la, b, c.lb, c.r); e != c.want {
			t.Error(i, e)
		}
		if _, e := path.Gap(a, c.la, b, c.lb); c.want != api.ErrRange && e != c.want {
			t.Error(i, e)
		}
	}
}
