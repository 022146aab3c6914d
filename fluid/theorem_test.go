package fluid_test

import (
	"math/rand"
	"slices"
	"testing"

	"moonpool/api"
	"moonpool/earth"
	"moonpool/fluid"
)

// holes makes some valid holes.
func holes() []api.Hole {
	r := rand.New(rand.NewSource(3))
	l := []api.Hole{hole(), {Segs: []api.Seg{{Long: 1 << 20, Rise: 1 << 20, Area: 5000, Gap: 200}}}, {Segs: []api.Seg{{Long: 7, Rise: 0, Area: 3, Gap: 1}}}}
	for range 40 {
		var h api.Hole
		for range 1 + r.Intn(5) {
			long := 1 + r.Int63n(900)
			h.Segs = append(h.Segs, api.Seg{Long: long, Rise: r.Int63n(long + 1), Area: 1 + r.Int63n(500), Gap: 1 + r.Int63n(200)})
		}
		l = append(l, h)
	}
	return l
}

// fill makes a column of a hole.
func fill(r *rand.Rand, h api.Hole) []api.Slug {
	var l []api.Slug
	for left := fluid.Volume(h); left > 0; {
		v := min(left, 1+r.Int63n(fluid.Volume(h)))
		if len(l) == 6 {
			v = left
		}
		l = append(l, api.Slug{Weight: 1000 * r.Int63n(20), Volume: v})
		left -= v
	}
	return l
}

func TestP3_9PressuresAreEnclosed(t *testing.T) {
	r := rand.New(rand.NewSource(39))
	for _, h := range holes() {
		for range 10 {
			l, u := fill(r, h), r.Int63n(fluid.Volume(h)+1)
			p, e := fluid.Press(h, l, 77, u)
			if e != api.OK || p.Lo > p.Hi {
				t.Fatal(h, l, u, p, e)
			}
			if lo, hi := exactly(h, l, 77, u); p.Hi < lo || p.Lo > hi {
				t.Fatal(h, l, u, p, lo, hi)
			}
			if q, _ := fluid.Press(h, l, 177, u); q != span(p.Lo+100, p.Hi+100) {
				t.Fatal("a greater top", p, q)
			}
			if q, _ := fluid.Press(h, fluid.Plain(l), 77, u); q != p {
				t.Fatal("made plain", p, q)
			}
			end := int64(0)
			for _, s := range l {
				if u >= end && u < end+s.Volume {
					if q, _ := fluid.Press(h, l, 77, end+r.Int63n(u-end+1)); q.Lo < p.Lo || q.Hi < p.Hi {
						t.Fatal("a lower place", p, q)
					}
				}
				end += s.Volume
			}
		}
	}
}

// exactly sums up the pressure in small steps, rounded to both sides by less than one weight for each boundary.
func exactly(h api.Hole, l []api.Slug, top, u int64) (lo, hi int64) {
	lo, hi = top, top
	end, heights := int64(0), fluid.Height(h)
	for _, s := range l {
		from, to := max(u, end), end+s.Volume
		end = to
		if to > from {
			a, b := earth.At(heights, from), earth.At(heights, to)
			lo += s.Weight * (b.Lo - a.Hi)
			hi += s.Weight * (b.Hi - a.Lo)
		}
	}
	return lo, hi
}

func TestP3_9WholeHeightsAreExact(t *testing.T) {
	h := hole()
	// In the upper segment 400 cm3 are one centimetre, in the lower one 3,000 are eight.
	l := column(9000, 3000*40, 11000, 3000*60+400*500, 10000, 1100000-300000-400*500)
	if fluid.CheckColumn(h, l) != api.OK {
		t.Fatal("no column")
	}
	for u := int64(0); u <= 300000; u += 3000 {
		if p, _ := fluid.Press(h, l, 0, u); p.Lo != p.Hi {
			t.Fatal(u, p)
		}
	}
	for u := int64(300000); u <= 1100000; u += 400 * 7 {
		if p, _ := fluid.Press(h, l, 0, u); p.Lo != p.Hi {
			t.Fatal(u, p)
		}
	}
}

func TestP3_10Pumping(t *testing.T) {
	r := rand.New(rand.NewSource(310))
	sum := func(l []api.Slug) (v int64) {
		for _, s := range l {
			v += s.Volume
		}
		return v
	}
	for _, h := range holes() {
		for range 10 {
			l := fill(r, h)
			s := api.Slug{Weight: 1000 * r.Int63n(20), Volume: 1 + r.Int63n(fluid.Volume(h))}
			kept := slices.Clone(l)
			now, out, e := fluid.Pump(h, l, s)
			if e != api.OK || fluid.CheckColumn(h, now) != api.OK || sum(out) != s.Volume || !slices.Equal(fluid.Plain(now), now) || !slices.Equal(fluid.Plain(out), out) {
				t.Fatal(h, l, s, now, out, e)
			}
			if !slices.Equal(l, kept) {
				t.Fatal("the argument was changed")
			}
			if s.Volume < 2 {
				continue
			}
			part := 1 + r.Int63n(s.Volume-1)
			a, _, _ := fluid.Pump(h, l, api.Slug{Weight: s.Weight, Volume: part})
			a, _, _ = fluid.Pump(h, a, api.Slug{Weight: s.Weight, Volume: s.Volume - part})
			b, _, _ := fluid.Pump(h, l, api.Slug{Weight: s.Weight, Volume: s.Volume - part})
			b, _, _ = fluid.Pump(h, b, api.Slug{Weight: s.Weight, Volume: part})
			if !slices.Equal(a, b) || !slices.Equal(a, now) {
				t.Fatal("the order of two slugs", a, b, now)
			}
		}
	}
}

func TestP3_11Gradients(t *testing.T) {
	r := rand.New(rand.NewSource(311))
	found := 0
	for range 400 {
		s := api.Seg{Long: 10, Rise: 5, Area: 1 + r.Int63n(5000), Gap: 1 + r.Int63n(200)}
		m := api.Mud{Yield: r.Int63n(20000), Visc: 1 + r.Int63n(1000)}
		flow := r.Int63n(1000001)
		g, ok := fluid.Gradient(s, m, flow)
		if !ok {
			if fluid.Flows(s, m, 20000, flow) {
				t.Fatal("there is one", s, m, flow)
			}
			continue
		}
		found++
		if !fluid.Flows(s, m, g, flow) || g > 0 && fluid.Flows(s, m, g-1, flow) {
			t.Fatal(s, m, flow, g)
		}
		less := func(s api.Seg, m api.Mud, flow int64) bool {
			x, ok := fluid.Gradient(s, m, flow)
			return ok && x < g
		}
		wide := s
		wide.Gap = min(200, s.Gap+r.Int63n(50))
		if less(s, m, min(1000000, flow+r.Int63n(5000))) || less(s, api.Mud{Yield: m.Yield + r.Int63n(900), Visc: m.Visc}, flow) || less(s, api.Mud{Yield: m.Yield, Visc: m.Visc + r.Int63n(900)}, flow) {
			t.Fatal("needs less", s, m, flow)
		}
		if x, ok := fluid.Gradient(wide, m, flow); !ok || x > g {
			t.Fatal("a greater gap", s, m, flow)
		}
	}
	if found < 100 {
		t.Error(found)
	}
}

func TestP3_12Losses(t *testing.T) {
	r := rand.New(rand.NewSource(312))
	m := api.Mud{Yield: 50, Visc: 3}
	for _, h := range holes() {
		volume := fluid.Volume(h)
		for range 20 {
			u := r.Int63n(volume + 1)
			v := u + r.Int63n(volume-u+1)
			a, ok := fluid.Loss(h, m, 100, u)
			b, good := fluid.Loss(h, m, 100, v)
			if ok != good || b.Lo > a.Lo || b.Hi > a.Hi || a.Lo > a.Hi {
				t.Fatal(h, u, v, a, b)
			}
		}
		if x, _ := fluid.Loss(h, m, 100, volume); x != span(0, 0) {
			t.Fatal(h, x)
		}
	}
}

func TestP3_13Gas(t *testing.T) {
	r := rand.New(rand.NewSource(313))
	for range 300 {
		g := api.Gas{K: r.Int63n(1 << 30), Power: r.Int63n(1 << 20)}
		p := 1 + r.Int63n(1<<34)
		q := p + r.Int63n(1<<34)
		if fluid.Free(g, q) > fluid.Free(g, p) || fluid.Space(g, q).Hi > fluid.Space(g, p).Hi || fluid.Space(g, q).Lo > fluid.Space(g, p).Lo {
			t.Fatal(g, p, q)
		}
		if b, ok := fluid.Bubble(g); ok && (fluid.Free(g, b) != 0 || b > 1 && fluid.Free(g, b-1) == 0 || fluid.Free(g, min(1<<36, b+r.Int63n(1<<30))) != 0) {
			t.Fatal(g, b)
		}
	}
}

func TestP3_14Cuttings(t *testing.T) {
	r := rand.New(rand.NewSource(314))
	for range 300 {
		s := api.Seg{Long: 10, Rise: 5, Area: 1 + r.Int63n(500), Gap: 5}
		feed, flow, slip := r.Int63n(2000), r.Int63n(50000), r.Int63n(100)
		a, ok := fluid.Load(s, feed, flow, slip)
		b, good := fluid.Load(s, feed, flow+r.Int63n(50000), slip)
		if ok && (!good || b > a || a > 1000) {
			t.Fatal(s, feed, flow, slip, a, b)
		}
		w := r.Int63n(20000)
		if x := fluid.Mixed(w, w+r.Int63n(20000), a); x < w {
			t.Fatal(w, x)
		}
	}
}

func TestP1AnyArguments(t *testing.T) {
	wild := []int64{-1 << 63, 1<<63 - 1, -1, 0, 1, 1 << 40}
	for _, x := range wild {
		for _, y := range wild {
			s := api.Seg{Long: x, Rise: y, Area: x, Gap: y}
			h := api.Hole{Segs: []api.Seg{s, s}}
			fluid.CheckHole(h)
			fluid.CheckColumn(hole(), column(x, y, y, x))
			fluid.Plain(column(x, y, x, y, y, x))
			fluid.Press(hole(), column(5, 1100000), x, y)
			fluid.Pump(hole(), column(5, 1100000), api.Slug{Weight: x, Volume: y})
			fluid.Equivalent(hole(), column(5, 1100000), x, y)
			fluid.Flows(s, api.Mud{Yield: x, Visc: y}, x, y)
			fluid.Flows(hole().Segs[0], api.Mud{Yield: 5, Visc: 5}, x, y)
			fluid.Loss(hole(), api.Mud{Yield: x, Visc: y}, x, y)
			fluid.Bubble(api.Gas{K: x, Power: y})
			fluid.Space(api.Gas{K: x, Power: x}, y)
			fluid.Load(hole().Segs[0], x, y, x)
			fluid.Mixed(x, y, x)
		}
	}
}
