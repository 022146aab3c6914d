package path_test

import (
	"math/rand"
	"slices"
	"testing"

	"moonpool/api"
	"moonpool/path"
)

func TestP1_8Places(t *testing.T) {
	r := rand.New(rand.NewSource(8))
	for range 100 {
		p := randomPath(r, r.Intn(6))
		joints, knots := path.Joints(p), path.Vert(p).Knots
		for i, k := range knots {
			if v, ok := path.At(p, k.At); !ok || v != joints[i] || v.Z != k.V {
				t.Fatal(p, i, v)
			}
		}
		n := path.Length(p)
		for range 20 {
			d, e := r.Int63n(n+1), r.Int63n(n+1)
			v, _ := path.At(p, d)
			w, _ := path.At(p, e)
			far := max(d-e, e-d) + 1
			if v.X-w.X > far || w.X-v.X > far || v.Y-w.Y > far || w.Y-v.Y > far || v.Z-w.Z > far || w.Z-v.Z > far {
				t.Fatal(p, d, e, v, w)
			}
		}
	}
}

func TestP1_9Turn(t *testing.T) {
	l := someLegs()
	for i, v := range l {
		for j, w := range l {
			a, _ := path.Turn(v, w)
			b, _ := path.Turn(w, v)
			c, _ := path.Turn(at(3*v.X, 3*v.Y, 3*v.Z), w)
			if a != b || a != c || (a.N == 0) != (i == j) {
				t.Error(v, w, a, b, c)
			}
		}
	}
}

func TestP1_10ActualIsInTheBox(t *testing.T) {
	r := rand.New(rand.NewSource(10))
	for range 100 {
		p := randomPath(r, 3)
		l := randomSources(r, 3, 3, 200)
		joint := r.Intn(4)
		b, e := path.Where(p, l, joint)
		if e != api.OK {
			t.Fatal(e)
		}
		shifts := path.Shifts(p, l, joint)
		most := make([]int64, 3)
		for range 10 {
			c := []int64{r.Int63n(2001) - 1000, r.Int63n(2001) - 1000, r.Int63n(2001) - 1000}
			v, _ := path.Actual(p, l, c, joint)
			if v.X < 1000*b.Lo.X || v.X > 1000*b.Hi.X || v.Y < 1000*b.Lo.Y || v.Y > 1000*b.Hi.Y || v.Z < 1000*b.Lo.Z || v.Z > 1000*b.Hi.Z {
				t.Fatal(v, b)
			}
		}
		for i, s := range shifts {
			most[i] = 1000
			if s.Y < 0 {
				most[i] = -1000
			}
		}
		if v, _ := path.Actual(p, l, most, joint); v.Y != 1000*b.Hi.Y {
			t.Fatal(v, b)
		}
	}
}

// coefficients gives each ID of two lists of sources one coefficient.
func coefficients(r *rand.Rand, a, b []api.Source) (ca, cb []int64) {
	by := map[int]int64{}
	pick := func(l []api.Source) []int64 {
		var c []int64
		for _, s := range l {
			if _, ok := by[s.ID]; !ok {
				by[s.ID] = []int64{-1000, 1000, r.Int63n(2001) - 1000}[r.Intn(3)]
			}
			c = append(c, by[s.ID])
		}
		return c
	}
	return pick(a), pick(b)
}

// between is the place at n / 10 of the way from v to w, times ten.
func between(v, w api.Vec, n int64) api.Vec {
	return at(v.X*(10-n)+w.X*n, v.Y*(10-n)+w.Y*n, v.Z*(10-n)+w.Z*n)
}

func distance(v, w api.Vec) int64 {
	d := at(v.X-w.X, v.Y-w.Y, v.Z-w.Z)
	return max(d.X, -d.X, d.Y, -d.Y, d.Z, -d.Z)
}

func TestP1_11SeparateLegsStayApart(t *testing.T) {
	r := rand.New(rand.NewSource(11))
	clear := 0
	for range 200 {
		a, b := randomPath(r, 3), randomPath(r, 3)
		la, lb := randomSources(r, 3, 2, 100), randomSources(r, 3, 2, 100)
		g, e := path.Gap(a, la, b, lb)
		if e != api.OK {
			t.Fatal(e)
		}
		if g > 0 {
			clear++
		}
		for range 30 {
			ca, cb := coefficients(r, la, lb)
			i, j := r.Intn(3), r.Intn(3)
			v, _ := path.Actual(a, la, ca, i)
			w, _ := path.Actual(a, la, ca, i+1)
			x, _ := path.Actual(b, lb, cb, j)
			y, _ := path.Actual(b, lb, cb, j+1)
			if d := distance(between(v, w, r.Int63n(11)), between(x, y, r.Int63n(11))); g > 0 && d <= 10000*g {
				t.Fatal(a, b, g, d)
			}
			if d := distance(v, x); d <= 1000*4000 && !path.Touches(a, la, i, b, lb, j, max(1, (d+999)/1000)) {
				t.Fatal("joints that touch", a, b, d)
			}
		}
	}
	if clear < 20 {
		t.Error("too few paths are apart", clear)
	}
}

func TestP1_11TouchingJointsDoSo(t *testing.T) {
	r := rand.New(rand.NewSource(111))
	for range 60 {
		a, b := well(at(0, 0, 5000), at(0, 0, 1000)), well(at(r.Int63n(600), r.Int63n(600), 5000+r.Int63n(500)), at(0, 0, 1000))
		la, lb := randomSources(r, 1, 2, 200), randomSources(r, 1, 1, 200)
		// The least distance over a grid of coefficients is near to the radius at which they begin to touch.
		near := int64(1) << 40
		for x := int64(-1000); x <= 1000; x += 50 {
			for y := int64(-1000); y <= 1000; y += 50 {
				for z := int64(-1000); z <= 1000; z += 100 {
					c := map[int]int64{lb[0].ID: z, la[0].ID: x, la[1].ID: y}
					v, _ := path.Actual(a, la, []int64{c[la[0].ID], c[la[1].ID]}, 1)
					w, _ := path.Actual(b, lb, []int64{c[lb[0].ID]}, 1)
					near = min(near, distance(v, w))
				}
			}
		}
		// A step of the grid moves a place by 25 + 25 + 50 thousandths of 200 at most.
		if limit := near/1000 - 21; limit >= 1 && path.Touches(a, la, 1, b, lb, 1, limit) {
			t.Fatal("they do not touch", near, limit)
		}
		if limit := near/1000 + 1; !path.Touches(a, la, 1, b, lb, 1, limit) {
			t.Fatal("they touch", near, limit)
		}
	}
}

func TestP1_12Separate(t *testing.T) {
	r := rand.New(rand.NewSource(12))
	for range 150 {
		a, b := randomPath(r, 2), randomPath(r, 3)
		la, lb := randomSources(r, 2, 3, 150), randomSources(r, 3, 2, 150)
		g, _ := path.Gap(a, la, b, lb)
		h, _ := path.Gap(b, lb, a, la)
		if g != h {
			t.Fatal("not symmetric", g, h)
		}
		all := func(r int64) bool {
			ok := true
			for i := range 2 {
				for j := range 3 {
					ok = ok && path.Separate(a, la, i, b, lb, j, r)
				}
			}
			return ok
		}
		if g > 0 && !all(g) || g > 1 && !all(g/2) || g < api.MaxRadius && all(g+1) {
			t.Fatal("Gap is where Separate ends", g)
		}
		if g > 0 {
			for i := range 3 {
				for j := range 4 {
					if path.Touches(a, la, i, b, lb, j, g) {
						t.Fatal("joints of separate legs touch")
					}
				}
			}
		}
		gone := la[0].ID
		keep := func(s api.Source) bool { return s.ID == gone }
		if fewer, _ := path.Gap(a, slices.DeleteFunc(slices.Clone(la), keep), b, slices.DeleteFunc(slices.Clone(lb), keep)); fewer < g {
			t.Fatal("fewer sources", fewer, g)
		}
		if k, _ := path.Known(a, la, a, la, 1); k != api.Touch {
			t.Fatal("a path touches itself")
		}
	}
}

func TestP1_14MovedAsAWhole(t *testing.T) {
	r := rand.New(rand.NewSource(14))
	move := func(p api.Path) api.Path {
		return api.Path{From: at(p.From.X+700, p.From.Y-50, p.From.Z+9000), Legs: p.Legs}
	}
	for range 100 {
		a, b := randomPath(r, 3), randomPath(r, 2)
		la, lb := randomSources(r, 3, 2, 50), randomSources(r, 2, 2, 50)
		g, _ := path.Gap(a, la, b, lb)
		h, _ := path.Gap(move(a), la, move(b), lb)
		if g != h || path.Length(a) != path.Length(move(a)) || path.Steepest(a) != path.Steepest(move(a)) {
			t.Fatal(g, h)
		}
	}
	goal := aim()
	p, _ := path.Plan(at(0, 0, 0), at(0, 0, 1), goal)
	into := at(700, 1750, 13400)
	goal.Into = api.Box{Lo: into, Hi: into}
	if q, e := path.Plan(at(700, -50, 9000), at(0, 0, 1), goal); e != api.OK || !slices.Equal(p.Legs, q.Legs) {
		t.Error(q, e)
	}
}

func TestP1NothingIsChanged(t *testing.T) {
	p, s := bent(), []api.Source{source(1, 2, at(1, 2, 3))}
	path.Gap(p, s, straight(), nil)
	l := path.Joints(p)
	l[0].X = 77
	k := path.Shifts(p, s, 1)
	k[0].X = 77
	if !slices.Equal(p.Legs, bent().Legs) || s[0].Per[0] != at(1, 2, 3) {
		t.Error(p, s)
	}
}

func TestP1AnyArguments(t *testing.T) {
	wild := []int64{-1 << 63, 1<<63 - 1, -1, 0, 1, 1 << 24, -1 << 40}
	for _, x := range wild {
		for _, y := range wild {
			v := at(x, y, x)
			p := well(v, v, at(y, 0, 0))
			path.Check(p)
			path.At(p, x)
			path.Turn(v, at(y, y, y))
			path.Steepest(p)
			path.Touches(p, nil, int(x), bent(), nil, int(y), x)
			path.Separate(bent(), nil, int(x), bent(), nil, int(y), y)
			path.Plan(v, at(y, 0, x), api.Goal{Dirs: []api.Vec{v, v}, Mult: x, Legs: int(y), Turn: api.Part{N: x, D: y}})
			path.Sidetrack(bent(), int(x), aim())
			path.Where(bent(), nil, int(y))
			path.Shifts(bent(), nil, int(x))
		}
	}
}
