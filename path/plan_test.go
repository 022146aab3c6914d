package path_test

import (
	"math/rand"
	"slices"
	"testing"

	"moonpool/api"
	"moonpool/path"
)

// aim is the goal of the chapter's last example.
func aim() api.Goal {
	into := at(0, 1800, 4400)
	return api.Goal{Dirs: []api.Vec{at(0, 0, 1000), at(0, 600, 800)}, Mult: 8, Legs: 3, Turn: api.Part{N: 1, D: 5}, Into: api.Box{Lo: into, Hi: into}}
}

func TestP1_6CheckGoal(t *testing.T) {
	if e := path.CheckGoal(aim()); e != api.OK {
		t.Error(e)
	}
	for i, c := range []struct {
		change func(*api.Goal)
		want   api.Errno
	}{
		{func(g *api.Goal) { g.Dirs = g.Dirs[:1]; g.Mult = 0 }, api.ErrShort},
		{func(g *api.Goal) { g.Dirs = make([]api.Vec, 9) }, api.ErrFull},
		{func(g *api.Goal) { g.Dirs[0] = at(1, 2, 3); g.Dirs[1] = at(0, 0, 99) }, api.ErrForm},
		{func(g *api.Goal) { g.Dirs[0] = at(0, 0, 99); g.Dirs[1] = at(1, 2, 3) }, api.ErrRange},
		{func(g *api.Goal) { g.Dirs[1] = at(0, 0, 4001) }, api.ErrRange},
		{func(g *api.Goal) { g.Dirs[1] = g.Dirs[0]; g.Mult = 0 }, api.ErrExists},
		{func(g *api.Goal) { g.Mult = 0 }, api.ErrRange}, {func(g *api.Goal) { g.Mult = 9 }, api.ErrRange},
		{func(g *api.Goal) { g.Legs = 0 }, api.ErrRange}, {func(g *api.Goal) { g.Legs = 4 }, api.ErrRange},
		{func(g *api.Goal) { g.Turn = api.Part{N: -1, D: 5} }, api.ErrRange}, {func(g *api.Goal) { g.Turn = api.Part{N: 6, D: 5} }, api.ErrRange},
		{func(g *api.Goal) { g.Turn = api.Part{N: 0, D: 0} }, api.ErrRange}, {func(g *api.Goal) { g.Turn = api.Part{N: 0, D: 1001} }, api.ErrRange},
		{func(g *api.Goal) { g.Into.Lo.Z++ }, api.ErrRange},
	} {
		g := aim()
		c.change(&g)
		if e := path.CheckGoal(g); e != c.want {
			t.Error(i, e, c.want)
		}
		if p, e := path.Plan(at(0, 0, -1), at(1, 1, 1), g); e != c.want || p.Legs != nil {
			t.Error(i, e, c.want)
		}
	}
}

func TestP1_6Plan(t *testing.T) {
	for i, c := range []struct {
		from, first api.Vec
		change      func(*api.Goal)
		legs        []api.Vec
		want        api.Errno
	}{
		{at(0, 0, 0), at(0, 0, 1), func(g *api.Goal) {}, []api.Vec{at(0, 0, 2000), at(0, 1800, 2400)}, api.OK},
		{at(0, 0, 0), at(0, 3, 4), func(g *api.Goal) {}, []api.Vec{at(0, 0, 2000), at(0, 1800, 2400)}, api.OK},
		{at(0, 0, 0), at(0, 0, 1), func(g *api.Goal) { g.Turn.N = 0 }, nil, api.ErrMissing},
		{at(0, 0, 0), at(0, 0, 1), func(g *api.Goal) { g.Legs = 1 }, nil, api.ErrMissing},
		{at(0, 0, 0), at(0, 0, 1), func(g *api.Goal) { g.Mult = 1 }, nil, api.ErrMissing},
		{at(0, 0, 0), at(0, -1, 0), func(g *api.Goal) { g.Turn = api.Part{N: 1, D: 1} }, nil, api.ErrMissing},
		{at(0, 0, 0), at(0, 0, 1), func(g *api.Goal) { g.Mult = 2 }, []api.Vec{at(0, 600, 800), at(0, 0, 2000), at(0, 1200, 1600)}, api.OK},
		{at(0, 0, -1), at(1, 1, 1), func(g *api.Goal) {}, nil, api.ErrRange},
		{at(0, 0, 0), at(1, 1, 1), func(g *api.Goal) {}, nil, api.ErrForm},
		{at(0, 0, 0), at(0, 0, 0), func(g *api.Goal) {}, nil, api.ErrForm},
		{at(0, 0, 0), at(0, 0, 1<<17+1), func(g *api.Goal) {}, nil, api.ErrForm},
	} {
		g := aim()
		c.change(&g)
		p, e := path.Plan(c.from, c.first, g)
		if e != c.want || !slices.Equal(p.Legs, c.legs) || e == api.OK && p.From != c.from {
			t.Error(i, p, e)
		}
	}
	// The place is the border of what is valid.
	g := aim()
	g.Into = api.Box{Lo: at(0, 0, 1<<20), Hi: at(0, 0, 1<<20+8000)}
	if p, e := path.Plan(at(0, 0, 1<<20-3000), at(0, 0, 1), g); e != api.OK || !slices.Equal(p.Legs, []api.Vec{at(0, 0, 3000)}) {
		t.Error(p, e)
	}
	g.Into.Lo.Z++
	if _, e := path.Plan(at(0, 0, 1<<20-3000), at(0, 0, 1), g); e != api.ErrMissing {
		t.Error(e)
	}
}

func TestP1_7Sidetrack(t *testing.T) {
	p, g := bent(), aim()
	g.Into = api.Box{Lo: at(0, 1800, 50000), Hi: at(0, 1800, 54400)}
	s, e := path.Sidetrack(p, 1, g)
	if e != api.OK || s.From != p.From || !slices.Equal(s.Legs, []api.Vec{at(0, 0, 50000), at(0, 1800, 2400)}) {
		t.Error(s, e)
	}
	for i, c := range []struct {
		p     api.Path
		joint int
		want  api.Errno
	}{{p, 0, api.ErrMissing}, {p, 3, api.ErrMissing}, {p, -1 << 63, api.ErrMissing}, {well(at(0, 0, -1)), 9, api.ErrRange}, {p, 2, api.ErrMissing}} {
		if _, e := path.Sidetrack(c.p, c.joint, g); e != c.want {
			t.Error(i, e)
		}
	}
	if _, e := path.Sidetrack(p, 1, api.Goal{}); e != api.ErrShort {
		t.Error(e)
	}
	many := well(at(0, 0, 0), slices.Repeat([]api.Vec{at(0, 0, 1000)}, 20)...)
	g.Into = api.Box{Lo: at(0, 600, 0), Hi: at(0, 1200, 1<<20)}
	if s, e := path.Sidetrack(many, 19, g); e != api.OK || len(s.Legs) != 20 {
		t.Error(s, e)
	}
	if _, e := path.Sidetrack(many, 20, g); e != api.ErrLong {
		t.Error(e)
	}
	s.Legs[0].X = 5
	if p.Legs[0].X != 0 {
		t.Error("memory is shared")
	}
}

// bestByTrying finds the best path in another way: all lists of legs, sorted.
func bestByTrying(from, first api.Vec, g api.Goal) (int64, []api.Vec) {
	type found struct {
		length int64
		legs   []api.Vec
	}
	var all []found
	lists := [][][2]int64{{}}
	for range g.Legs {
		var longer [][][2]int64
		for _, l := range lists {
			for d := range g.Dirs {
				for k := int64(1); k <= g.Mult; k++ {
					longer = append(longer, append(slices.Clone(l), [2]int64{int64(d), k}))
				}
			}
		}
		lists = longer
		for _, l := range lists {
			f, before, end, ok := found{}, first, from, true
			for i, x := range l {
				d := g.Dirs[x[0]]
				leg := at(d.X*x[1], d.Y*x[1], d.Z*x[1])
				turn, _ := path.Turn(before, leg)
				dot := before.X*leg.X + before.Y*leg.Y + before.Z*leg.Z
				ok = ok && dot > 0 && turn.N*g.Turn.D <= g.Turn.N*turn.D && (i == 0 || l[i-1][0] != x[0])
				f.legs, before = append(f.legs, leg), leg
				end = at(end.X+leg.X, end.Y+leg.Y, end.Z+leg.Z)
			}
			p := api.Path{From: from, Legs: f.legs}
			b := g.Into
			in := b.Lo.X <= end.X && end.X <= b.Hi.X && b.Lo.Y <= end.Y && end.Y <= b.Hi.Y && b.Lo.Z <= end.Z && end.Z <= b.Hi.Z
			if ok && in && path.Check(p) == api.OK {
				f.length = path.Length(p)
				all = append(all, f)
			}
		}
	}
	if len(all) == 0 {
		return 0, nil
	}
	slices.SortStableFunc(all, func(a, b found) int { return int(a.length - b.length) })
	return all[0].length, all[0].legs
}

func TestP1_13PlansAreBest(t *testing.T) {
	r := rand.New(rand.NewSource(13))
	reached := 0
	for range 60 {
		dirs := someLegs()
		r.Shuffle(len(dirs), func(i, j int) { dirs[i], dirs[j] = dirs[j], dirs[i] })
		g := api.Goal{Dirs: dirs[:2+r.Intn(3)], Mult: 1 + r.Int63n(3), Legs: 1 + r.Intn(3), Turn: api.Part{N: 1 + r.Int63n(4), D: 4}}
		end := at(r.Int63n(1500)-700, r.Int63n(1500), 1000+r.Int63n(2000))
		g.Into = api.Box{Lo: end, Hi: at(end.X+700, end.Y+700, end.Z+900)}
		length, legs := bestByTrying(at(0, 0, 0), at(0, 0, 1), g)
		p, e := path.Plan(at(0, 0, 0), at(0, 0, 1), g)
		if (e == api.OK) != (legs != nil) || !slices.Equal(p.Legs, legs) {
			t.Error(g, p, e, length, legs)
		}
		if e != api.OK {
			continue
		}
		reached++
		wide := g
		wide.Into.Hi.Z += 500
		if q, e := path.Plan(at(0, 0, 0), at(0, 0, 1), wide); e != api.OK || path.Length(q) > length {
			t.Error("a goal that allows more", q, e, length)
		}
	}
	if reached < 10 {
		t.Error("too few goals are reached", reached)
	}
}
