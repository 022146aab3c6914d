package pipe_test

import (
	"math/rand"
	"slices"
	"testing"

	"moonpool/api"
	"moonpool/path"
	"moonpool/pipe"
)

// randomString makes a valid string with a length of at most 40000.
func randomString(r *rand.Rand) api.String {
	var s api.String
	for range 1 + r.Intn(4) {
		s.Tubes = append(s.Tubes, tube(1+r.Int63n(5), 100+r.Int63n(1900), 300000+r.Int63n(100000), 1+r.Int63n(20), 2+r.Int63n(30)))
	}
	return s
}

// randomPath makes a path that is longer than 40000; if it is to fall, no leg goes upwards.
func randomPath(r *rand.Rand, falls bool) api.Path {
	dirs := []api.Vec{at(0, 0, 1000), at(0, 600, 800), at(600, 0, 800), at(200, 300, 600), at(-600, 0, 800), at(0, 800, 600), at(0, 1000, 0), at(0, 600, -800), at(480, 640, 600)}
	if falls {
		dirs = dirs[:7]
	}
	p := api.Path{From: at(0, 0, 200000)}
	for len(p.Legs) < 20 && path.Length(p) < 40000 {
		d, k := dirs[r.Intn(len(dirs))], 2+r.Int63n(9)
		q := api.Path{From: p.From, Legs: append(slices.Clone(p.Legs), at(d.X*k, d.Y*k, d.Z*k))}
		if path.Check(q) == api.OK {
			p = q
		}
	}
	return p
}

// pairs makes strings that fit into paths.
func pairs(seed int64, falls bool, try func(r *rand.Rand, s api.String, p api.Path)) {
	r := rand.New(rand.NewSource(seed))
	for n := 0; n < 150; {
		s, p := randomString(r), randomPath(r, falls)
		if pipe.Fits(s, p) == api.OK {
			try(r, s, p)
			n++
		}
	}
}

func TestP4_7PiecesAreTheString(t *testing.T) {
	pairs(7, false, func(r *rand.Rand, s api.String, p api.Path) {
		l, knots := pipe.Pieces(s, p), path.Vert(p).Knots
		to, far := pipe.Length(s), int64(0)
		ends := []int64{0}
		for _, x := range s.Tubes {
			far += x.Count * x.Len
			ends = append(ends, far)
		}
		for _, x := range l {
			if x.To != to || x.From >= x.To || knots[x.Leg].At > x.From || knots[x.Leg+1].At < x.To {
				t.Fatal("a leg", s, p, l)
			}
			if far-x.To < ends[x.Tube] || far-x.From > ends[x.Tube+1] {
				t.Fatal("a tube", s, p, l)
			}
			to = x.From
		}
		if to != 0 {
			t.Fatal(s, p, l)
		}
	})
}

func TestP4_8Weights(t *testing.T) {
	pairs(8, false, func(r *rand.Rand, s api.String, p api.Path) {
		sum, steel, mud := int64(0), int64(0), r.Int63n(9000)
		for _, x := range s.Tubes {
			sum += pipe.Weight(stringOf(x), mud)
			steel += x.Steel * x.Count * x.Len
		}
		if w := pipe.Weight(s, mud); w != sum || pipe.Weight(s, mud+1) != w-steel {
			t.Fatal(s, mud, w)
		}
	})
}

// inside reports whether all loads of a are in those of b.
func inside(a, b []api.Hang) bool {
	return slices.EqualFunc(a, b, func(x, y api.Hang) bool {
		return x.At == y.At && x.Tension.Lo >= y.Tension.Lo && x.Tension.Hi <= y.Tension.Hi && x.Torque.Lo >= y.Torque.Lo && x.Torque.Hi <= y.Torque.Hi
	})
}

func TestP4_9AndP4_13LesserRanges(t *testing.T) {
	pairs(9, false, func(r *rand.Rand, s api.String, p api.Path) {
		c := pull(1+r.Intn(3), r.Int63n(200), 200+r.Int63n(300), r.Int63n(1<<33))
		c.Mud = r.Int63n(9000)
		d := c
		d.Mu.Lo += r.Int63n(c.Mu.Hi - c.Mu.Lo + 1)
		d.Mu.Hi = d.Mu.Lo + r.Int63n(c.Mu.Hi-d.Mu.Lo+1)
		wide, e := pipe.Loads(s, p, c)
		if e != api.OK {
			t.Fatal(e)
		}
		if narrow, e := pipe.Loads(s, p, d); e != api.OK || !inside(narrow, wide) {
			t.Fatal(s, p, c, d, narrow, wide, e)
		}
		for i := range s.Tubes {
			s.Tubes[i].Yield = 1 + r.Int63n(1<<35)
		}
		ok, _, _ := pipe.Strong(s, p, c)
		if better, _, e := pipe.Strong(s, p, d); e != api.OK || ok && !better {
			t.Fatal("it is not borne", s, p, c, d)
		}
	})
}

func TestP4_10AndP4_12Modes(t *testing.T) {
	pairs(10, false, func(r *rand.Rand, s api.String, p api.Path) {
		lo := r.Int63n(300)
		loads := func(mode int, bit int64) []api.Hang {
			l, e := pipe.Loads(s, p, pull(mode, lo, lo+77, bit))
			if e != api.OK {
				t.Fatal(e)
			}
			return l
		}
		up, spin, down := loads(api.ModeUp, 0), loads(api.ModeSpin, 0), loads(api.ModeDown, 0)
		bit := r.Int63n(1 << 33)
		for i := range up {
			a, b, c := up[i].Tension, spin[i].Tension, down[i].Tension
			if a.Lo < b.Lo || a.Hi < b.Hi || b.Lo < c.Lo || b.Hi < c.Hi {
				t.Fatal(s, p, a, b, c)
			}
			if x := loads(api.ModeUp, bit)[i].Tension; x.Lo < a.Lo || x.Hi < a.Hi {
				t.Fatal("more force", s, p)
			}
			if x := loads(api.ModeSpin, bit)[i].Tension; x.Lo > b.Lo || x.Hi > b.Hi {
				t.Fatal("more force", s, p)
			}
			if x := loads(api.ModeDown, bit)[i].Tension; x.Lo > c.Lo || x.Hi > c.Hi {
				t.Fatal("more force", s, p)
			}
		}
	})
}

func TestP4_11StraightDown(t *testing.T) {
	pairs(11, false, func(r *rand.Rand, s api.String, p api.Path) {
		down := well(at(0, 0, 9000), at(0, 0, 90000))
		n, bit, mud := pipe.Weight(s, 100), r.Int63n(1<<33), int64(100)
		for mode, want := range map[int]int64{api.ModeUp: n + bit, api.ModeDown: n - bit, api.ModeSpin: n - bit} {
			c := pull(mode, 0, 600, bit)
			c.Mud = mud
			l, e := pipe.Loads(s, down, c)
			if top := l[len(l)-1]; e != api.OK || top.At != 0 || top.Tension != span(want, want) || top.Torque != span(0, 0) {
				t.Fatal(s, mode, l, e)
			}
		}
	})
}

func TestP4_12HeavierMud(t *testing.T) {
	pairs(12, true, func(r *rand.Rand, s api.String, p api.Path) {
		c := pull(api.ModeUp, 100, 300, r.Int63n(1<<30))
		c.Mud = r.Int63n(5000)
		d := c
		d.Mud += r.Int63n(5000)
		light, e := pipe.Loads(s, p, c)
		heavy, err := pipe.Loads(s, p, d)
		if e != api.OK || err != api.OK {
			t.Fatal(e, err)
		}
		for i := range light {
			if heavy[i].Tension.Hi > light[i].Tension.Hi {
				t.Fatal(s, p, light, heavy)
			}
		}
	})
}

func TestP4_14TurnsAddUp(t *testing.T) {
	table := []api.Row{{Turn: api.Part{N: 1, D: 10}, Turns: 90001}, {Turn: api.Part{N: 1, D: 4}, Turns: 7003}, {Turn: api.Part{N: 1, D: 1}, Turns: 701}}
	pairs(14, false, func(r *rand.Rand, s api.String, p api.Path) {
		n, m := r.Int63n(900), r.Int63n(900)
		once, e := pipe.Turn(s, p, table, n+m)
		part, err := pipe.Turn(s, p, table, n)
		twice, fault := pipe.Turn(part, p, table, m)
		if e != api.OK || err != api.OK || fault != api.OK {
			t.Fatal(e, err, fault)
		}
		bends := int64(len(p.Legs) - 1)
		for i := range s.Tubes {
			if d := twice.Tubes[i].Used - once.Tubes[i].Used; d < 0 || d > bends {
				t.Fatal(s, p, d)
			}
		}
		for _, straight := range []api.Path{well(at(0, 60000, 80000)), well(at(0, 6000, 8000), at(0, 60000, 80000))} {
			if x, e := pipe.Turn(s, straight, table, 5); e != api.OK || !pipe.Same(x, s) {
				t.Fatal("a straight path uses nothing", x, e)
			}
		}
	})
}

func TestP4_15DropAfterAdd(t *testing.T) {
	pairs(15, false, func(r *rand.Rand, s api.String, p api.Path) {
		more := tube(1+r.Int63n(9), 100+r.Int63n(900), 5, 6, 7)
		long, e := pipe.Add(s, more)
		if e != api.OK {
			t.Fatal(e)
		}
		if back, e := pipe.Drop(long, more.Count); e != api.OK || !pipe.Same(back, s) {
			t.Fatal(s, more, back, e)
		}
		joints := pipe.Joints(s)
		if l := pipe.Joints(long); !slices.Equal(l[:len(joints)], joints) || l[len(l)-1] != pipe.Length(long) {
			t.Fatal(joints, l)
		}
	})
}

func TestR4NothingIsChangedOrShared(t *testing.T) {
	s, p := drill(), bent()
	long, _ := pipe.Add(s, tube(1, 100, 1, 1, 2))
	short, _ := pipe.Drop(s, 1)
	turned, _ := pipe.Turn(s, p, []api.Row{{Turn: api.Part{N: 1, D: 1}, Turns: 5}}, 1)
	for _, x := range []api.String{long, short, turned} {
		x.Tubes[0].Used = 99
	}
	if !pipe.Same(s, drill()) {
		t.Error(s)
	}
}

func TestP1AnyArguments(t *testing.T) {
	wild := []int64{-1 << 63, 1<<63 - 1, -1, 0, 1, 1 << 40}
	for _, x := range wild {
		for _, y := range wild {
			u := api.Tube{Count: x, Len: y, Air: x, Steel: y, Out: x, Yield: y, Twist: x, Stiff: y, Used: x}
			pipe.Check(stringOf(u, u))
			pipe.Wet(u, y)
			pipe.Near(drill(), x, y)
			pipe.Side(at(x, y, x))
			pipe.Bend(at(x, y, x), at(y, x, y))
			pipe.Loads(drill(), bent(), api.Case{Mode: int(x), Mud: y, Mu: span(x, y), Bit: y})
			pipe.Loads(drill(), well(at(x, y, x)), pull(1, 5, 6, 7))
			pipe.Buckles(drill(), bent(), pull(1, 5, 6, 7), x)
			pipe.Turn(drill(), bent(), []api.Row{{Turn: api.Part{N: x, D: y}, Turns: x}}, y)
			pipe.Add(drill(), u)
			pipe.Drop(drill(), x)
		}
	}
}
