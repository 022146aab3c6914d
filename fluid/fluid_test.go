package fluid_test

import (
	"slices"
	"testing"

	"moonpool/api"
	"moonpool/earth"
	"moonpool/fluid"
)

// hole is the hole H of the chapter's examples.
func hole() api.Hole {
	return api.Hole{Segs: []api.Seg{{Long: 1000, Rise: 800, Area: 300, Gap: 50}, {Long: 2000, Rise: 2000, Area: 400, Gap: 60}}}
}

// column makes slugs from pairs of weights and volumes.
func column(l ...int64) []api.Slug {
	var c []api.Slug
	for i := 0; i+1 < len(l); i += 2 {
		c = append(c, api.Slug{Weight: l[i], Volume: l[i+1]})
	}
	return c
}

func span(lo, hi int64) api.Range { return api.Range{Lo: lo, Hi: hi} }

func TestP3_1Hole(t *testing.T) {
	h := hole()
	if e, v := fluid.CheckHole(h), fluid.Volume(h); e != api.OK || v != 1100000 {
		t.Error(e, v)
	}
	if l := fluid.Height(h); !slices.Equal(l.Knots, []api.Knot{{At: 0, V: 0}, {At: 300000, V: 800}, {At: 1100000, V: 2800}}) {
		t.Error(l)
	}
	for u, want := range map[int64]int{0: 0, 299999: 0, 300000: 1, 1100000: 1, 1100001: -1, -1: -1, 1<<63 - 1: -1, -1 << 63: -1} {
		if w := fluid.Where(h, u); w != want {
			t.Error(u, w)
		}
	}
	seg := h.Segs[0]
	with := func(change func(*api.Seg)) api.Hole {
		s := seg
		change(&s)
		return api.Hole{Segs: []api.Seg{seg, s}}
	}
	for i, c := range []struct {
		h    api.Hole
		want api.Errno
	}{
		{api.Hole{}, api.ErrShort}, {api.Hole{Segs: make([]api.Seg, 17)}, api.ErrFull}, {api.Hole{Segs: slices.Repeat([]api.Seg{seg}, 16)}, api.OK},
		{with(func(s *api.Seg) { s.Long, s.Rise = 0, 0 }), api.ErrRange}, {with(func(s *api.Seg) { s.Rise = -1 }), api.ErrRange}, {with(func(s *api.Seg) { s.Rise = 1001 }), api.ErrRange},
		{with(func(s *api.Seg) { s.Rise = 0 }), api.OK}, {with(func(s *api.Seg) { s.Rise = 1000 }), api.OK},
		{with(func(s *api.Seg) { s.Area = 0 }), api.ErrRange}, {with(func(s *api.Seg) { s.Area = 5001 }), api.ErrRange}, {with(func(s *api.Seg) { s.Gap = 0 }), api.ErrRange}, {with(func(s *api.Seg) { s.Gap = 201 }), api.ErrRange},
		{with(func(s *api.Seg) { s.Long = 1<<20 - 1000 }), api.OK}, {with(func(s *api.Seg) { s.Long = 1<<20 - 999 }), api.ErrLong}, {with(func(s *api.Seg) { s.Long = 1<<63 - 1 }), api.ErrLong},
		{api.Hole{Segs: []api.Seg{{Long: 1 << 62, Area: 1, Gap: 1}, {Long: 1 << 62, Area: 0, Gap: 1}}}, api.ErrRange},
	} {
		if e := fluid.CheckHole(c.h); e != c.want {
			t.Error(i, e, c.want)
		}
		if c.want != api.OK && (fluid.Volume(c.h) != 0 || fluid.Height(c.h).Knots != nil || fluid.Where(c.h, 0) != -1) {
			t.Error(i, "a hole that is not valid")
		}
	}
}

func TestP3_2Column(t *testing.T) {
	h := hole()
	for i, c := range []struct {
		h    api.Hole
		l    []api.Slug
		want api.Errno
	}{
		{h, column(12000, 1100000), api.OK}, {h, column(0, 1, 40000, 1099999), api.OK}, {h, nil, api.ErrShort}, {h, make([]api.Slug, 25), api.ErrFull}, {api.Hole{}, make([]api.Slug, 25), api.ErrShort},
		{h, column(-1, 1100000), api.ErrRange}, {h, column(40001, 1100000), api.ErrRange}, {h, column(5, 0, 5, 1100000), api.ErrRange}, {h, column(5, 1<<62, 5, -1), api.ErrRange},
		{h, column(5, 1099999), api.ErrShort}, {h, column(5, 1100001), api.ErrLong}, {h, column(5, 1<<63-1, 5, 1<<63-1, 5, 1100002), api.ErrLong},
	} {
		if e := fluid.CheckColumn(c.h, c.l); e != c.want {
			t.Error(i, e, c.want)
		}
	}
	for i, c := range []struct{ l, want []api.Slug }{
		{column(5, 1, 5, 2, 6, 3, 5, 4), column(5, 3, 6, 3, 5, 4)}, {nil, nil}, {column(5, 1, 6, 0, 5, 2), column(5, 3)}, {column(5, 1, 6, -3, 5, 1<<40), column(5, 1<<40+1)}, {column(-7, 1<<40+1, 1<<62, 3), column(1<<62, 3)},
	} {
		if l := fluid.Plain(c.l); !slices.Equal(l, c.want) {
			t.Error(i, l)
		}
	}
}

func TestP3_3Press(t *testing.T) {
	h, one := hole(), column(12000, 1100000)
	two := column(12000, 700000, 10000, 400000)
	for i, c := range []struct {
		h      api.Hole
		l      []api.Slug
		top, u int64
		want   api.Range
		e      api.Errno
	}{
		{h, one, 0, 0, span(33600000, 33600000), api.OK}, {h, one, 0, 1100000, span(0, 0), api.OK}, {h, one, 0, 100, span(33588000, 33600000), api.OK},
		{h, two, 5, 0, span(31600005, 31600005), api.OK}, {h, two, 5, 700000, span(10000005, 10000005), api.OK}, {h, two, 5, 700001, span(9990005, 10000005), api.OK}, {h, two, 5, 1100000, span(5, 5), api.OK},
		{h, column(12000, 700001, 10000, 399999), 0, 0, span(31600000, 31602000), api.OK}, {h, column(10000, 700001, 12000, 399999), 0, 0, span(29998000, 30000000), api.OK},
		{h, column(5000, 300000, 12000, 400000, 10000, 400000), 0, 300000, span(22000000, 22000000), api.OK},
		{h, one, -1, 0, span(0, 0), api.ErrRange}, {h, one, 1<<36 + 1, 0, span(0, 0), api.ErrRange}, {h, one, 0, -1, span(0, 0), api.ErrRange}, {h, one, 0, 1100001, span(0, 0), api.ErrRange}, {h, nil, -1, -1, span(0, 0), api.ErrShort},
		{h, one, 1 << 36, 1100000, span(1<<36, 1<<36), api.OK},
	} {
		if p, e := fluid.Press(c.h, c.l, c.top, c.u); p != c.want || e != c.e {
			t.Error(i, p, e, c.want)
		}
	}
	for i, c := range []struct {
		l      []api.Slug
		top, u int64
		want   api.Range
		e      api.Errno
	}{
		{one, 0, 0, span(12000, 12000), api.OK}, {one, 0, 100, span(33588000/2800, 12005), api.OK}, {one, 2800, 0, span(12001, 12001), api.OK},
		{one, 0, 1100000, span(0, 0), api.ErrRange}, {one, 0, 1099999, span(0, 12000), api.OK}, {one, 7, 1099999, span(7, 12007), api.OK}, {nil, 0, 1100000, span(0, 0), api.ErrShort}, {one, -1, 0, span(0, 0), api.ErrRange},
		// Both heights are rounded, so that the Lo of the pressure is -40,000.
		{column(40000, 1099999, 0, 1), 0, 1099998, span(0, 40000), api.OK},
	} {
		p, e := fluid.Equivalent(h, c.l, c.top, c.u)
		if p != c.want || e != c.e {
			t.Error(i, p, e, c.want)
		}
	}
	if p, e := fluid.Equivalent(api.Hole{Segs: []api.Seg{{Long: 10, Rise: 0, Area: 5, Gap: 5}}}, column(5, 50), 9, 0); p != span(0, 0) || e != api.ErrRange {
		t.Error(p, e)
	}
}

func TestP3_4Pump(t *testing.T) {
	h := hole()
	for i, c := range []struct {
		l        []api.Slug
		s        api.Slug
		now, out []api.Slug
		e        api.Errno
	}{
		{column(12000, 1100000), column(15000, 400000)[0], column(15000, 400000, 12000, 700000), column(12000, 400000), api.OK},
		{column(12000, 1100000), column(15000, 1100000)[0], column(15000, 1100000), column(12000, 1100000), api.OK},
		{column(1, 100000, 2, 500000, 3, 500000), column(1, 600000)[0], column(1, 700000, 2, 400000), column(2, 100000, 3, 500000), api.OK},
		{column(1, 100000, 1, 500000, 3, 500000), column(7, 1)[0], column(7, 1, 1, 600000, 3, 499999), column(3, 1), api.OK},
		{column(12000, 1100000), column(15000, 0)[0], nil, nil, api.ErrRange}, {column(12000, 1100000), column(15000, 1100001)[0], nil, nil, api.ErrRange}, {column(12000, 1100000), column(-1, 1)[0], nil, nil, api.ErrRange}, {column(12000, 1100000), column(40001, 1)[0], nil, nil, api.ErrRange},
		{column(12000, 1), column(-1, 1)[0], nil, nil, api.ErrShort},
	} {
		now, out, e := fluid.Pump(h, c.l, c.s)
		if e != c.e || !slices.Equal(now, c.now) || !slices.Equal(out, c.out) {
			t.Error(i, now, out, e)
		}
	}
	var full []api.Slug
	for i := range int64(24) {
		full = append(full, api.Slug{Weight: i, Volume: 1})
	}
	full[23].Volume = 1100000 - 23
	if _, _, e := fluid.Pump(h, full, api.Slug{Weight: 9, Volume: 1}); e != api.ErrFull {
		t.Error(e)
	}
	if now, _, e := fluid.Pump(h, full, api.Slug{Weight: 0, Volume: 1}); e != api.OK || len(now) != 24 {
		t.Error(now, e)
	}
	if now, out, e := fluid.Pump(h, full, api.Slug{Weight: 9, Volume: 1100000 - 23}); e != api.OK || len(now) != 24 || len(out) != 1 {
		t.Error(now, out, e)
	}
}

func TestP3_5Flow(t *testing.T) {
	s, m := hole().Segs[0], api.Mud{Yield: 100, Visc: 10}
	for i, c := range []struct {
		g, flow int64
		want    bool
	}{{2, 1, false}, {2, 0, true}, {0, 0, true}, {3, 1, true}, {3, 66666, true}, {3, 66667, false}, {-1, 0, false}, {20001, 0, false}, {20000, 1000000, true}, {20000, 1000001, false}, {3, -1, false}} {
		if got := fluid.Flows(s, m, c.g, c.flow); got != c.want {
			t.Error(i, got)
		}
	}
	for i, c := range []struct {
		s api.Seg
		m api.Mud
	}{{api.Seg{}, m}, {api.Seg{Long: 1<<20 + 1, Rise: 0, Area: 1, Gap: 1}, m}, {s, api.Mud{Yield: -1, Visc: 1}}, {s, api.Mud{Yield: 1000001, Visc: 1}}, {s, api.Mud{Yield: 0, Visc: 0}}, {s, api.Mud{Yield: 0, Visc: 1000001}}} {
		if g, ok := fluid.Gradient(c.s, c.m, 0); g != 0 || ok || fluid.Flows(c.s, c.m, 5, 0) {
			t.Error(i, g, ok)
		}
		if r, ok := fluid.Loss(api.Hole{Segs: []api.Seg{c.s}}, c.m, 0, 0); r != span(0, 0) || ok {
			t.Error(i, r, ok)
		}
	}
	for i, c := range []struct {
		m       api.Mud
		flow, g int64
		ok      bool
	}{{m, 0, 0, true}, {m, 1, 3, true}, {m, 66666, 3, true}, {m, 66667, 4, true}, {m, 1000001, 0, false}, {m, -1, 0, false}, {api.Mud{Yield: 1000000, Visc: 1}, 1, 0, false}, {api.Mud{Yield: 999999, Visc: 1}, 1, 0, false}, {api.Mud{Yield: 0, Visc: 1000000}, 30000, 20000, true}, {api.Mud{Yield: 0, Visc: 1000000}, 30001, 0, false}} {
		g, ok := fluid.Gradient(s, c.m, c.flow)
		if g != c.g || ok != c.ok {
			t.Error(i, g, ok)
		}
	}
}

func TestP3_5GreatProducts(t *testing.T) {
	// t is 4,000,000, so the flow is 2 * 4000000 * 200 * 5000 / 1000000 = 8,000,000; products are near 2^87.
	s := api.Seg{Long: 1, Rise: 0, Area: 5000, Gap: 200}
	if !fluid.Flows(s, api.Mud{Yield: 0, Visc: 1000000}, 20000, 1000000) {
		t.Error("it flows")
	}
	if g, ok := fluid.Gradient(s, api.Mud{Yield: 0, Visc: 1000000}, 1000000); g != 2500 || !ok {
		t.Error(g, ok)
	}
	// Two words decide: 2 t g A / m is the flow for a yield of 0, here 2 * 200 G * 200 * 5000 / 999999.
	if g, ok := fluid.Gradient(s, api.Mud{Yield: 0, Visc: 999999}, 1000000); g != 2500 || !ok {
		t.Error(g, ok)
	}
	if g, ok := fluid.Gradient(s, api.Mud{Yield: 0, Visc: 1000000}, 999601); g != 2500 || !ok {
		t.Error(g, ok)
	}
	if g, ok := fluid.Gradient(s, api.Mud{Yield: 0, Visc: 1000000}, 999600); g != 2499 || !ok {
		t.Error(g, ok)
	}
}

func TestP3_5Loss(t *testing.T) {
	h, m := hole(), api.Mud{Yield: 100, Visc: 10}
	a, _ := fluid.Gradient(h.Segs[0], m, 5000)
	b, _ := fluid.Gradient(h.Segs[1], m, 5000)
	for i, c := range []struct {
		u    int64
		want api.Range
		ok   bool
	}{
		{0, span(1000*a+2000*b, 1000*a+2000*b), true}, {300000, span(2000*b, 2000*b), true}, {1100000, span(0, 0), true}, {299999, span(2000*b, 2000*b+a), true}, {1, span(999*a+2000*b, 1000*a+2000*b), true}, {700000, span(1000*b, 1000*b), true}, {700001, span(999*b, 1000*b), true},
		{-1, span(0, 0), false}, {1100001, span(0, 0), false},
	} {
		if r, ok := fluid.Loss(h, m, 5000, c.u); r != c.want || ok != c.ok {
			t.Error(i, r, ok, c.want)
		}
	}
	// A segment below the place has no gradient.
	h.Segs[0].Gap, h.Segs[0].Area = 1, 1
	if r, ok := fluid.Loss(h, api.Mud{Yield: 20001, Visc: 10}, 1, fluid.Volume(h)); ok || r != span(0, 0) {
		t.Error(r, ok)
	}
	if r, ok := fluid.Loss(h, api.Mud{Yield: 20001, Visc: 10}, 0, 0); !ok || r != span(0, 0) {
		t.Error(r, ok)
	}
}

func TestP3_6Gas(t *testing.T) {
	g := api.Gas{K: 5000000, Power: 1000}
	if f, s := fluid.Free(g, 3145728), fluid.Space(g, 3145728); f != 4997000 || s != span(1, 2) {
		t.Error(f, s)
	}
	if f := fluid.Free(g, 3145727); f != 4998000 {
		t.Error(f)
	}
	for i, c := range []struct {
		g  api.Gas
		p  int64
		ok bool
	}{
		{api.Gas{K: 5000, Power: 1000}, 5242880, true}, {api.Gas{K: 5001, Power: 1000}, 6 << 20, true}, {api.Gas{K: 0, Power: 0}, 1, true}, {api.Gas{K: 1, Power: 0}, 0, false},
		{api.Gas{K: 1 << 16, Power: 1}, 1 << 36, true}, {api.Gas{K: 1<<16 + 1, Power: 1}, 0, false}, {api.Gas{K: -1, Power: 1}, 0, false}, {api.Gas{K: 1<<60 + 1, Power: 1 << 40}, 0, false}, {api.Gas{K: 5, Power: -1}, 0, false}, {api.Gas{K: 5, Power: 1<<40 + 1}, 0, false}, {api.Gas{K: 1 << 56, Power: 1 << 40}, 1 << 36, true},
	} {
		if p, ok := fluid.Bubble(c.g); p != c.p || ok != c.ok {
			t.Error(i, p, ok)
		}
	}
	for i, p := range []int64{0, -1, 1<<36 + 1} {
		if fluid.Free(g, p) != 0 || fluid.Space(g, p) != span(0, 0) {
			t.Error(i)
		}
	}
	for i, g := range []api.Gas{{K: -1}, {K: 1<<60 + 1}, {K: 5, Power: -1}, {K: 5, Power: 1<<40 + 1}} {
		if fluid.Free(g, 1) != 0 || fluid.Space(g, 1) != span(0, 0) {
			t.Error(i)
		}
	}
	if s := fluid.Space(api.Gas{K: 1 << 60}, 1); s != span(1<<60, 1<<60) {
		t.Error(s)
	}
}

func TestP3_7Cuttings(t *testing.T) {
	s := hole().Segs[0]
	for i, c := range []struct {
		s                api.Seg
		feed, flow, slip int64
		load             int64
		ok               bool
	}{
		{s, 100, 40000, 30, 4, true}, {s, 100, 9000, 30, 0, false}, {s, 100, 9001, 30, 1000, true}, {s, 0, 9001, 30, 0, true}, {s, 1, 10000, 30, 1, true}, {s, 5, 5, 0, 1000, true}, {s, 0, 0, 0, 0, false},
		{api.Seg{}, 1, 10000, 30, 0, false}, {s, -1, 10000, 30, 0, false}, {s, 1000001, 10000, 30, 0, false}, {s, 1, 1000001, 30, 0, false}, {s, 1, -1, 30, 0, false}, {s, 1, 10000, -1, 0, false}, {s, 1, 1000000, 1001, 0, false}, {s, 1, 1000000, 1000, 1, true},
	} {
		if load, ok := fluid.Load(c.s, c.feed, c.flow, c.slip); load != c.load || ok != c.ok {
			t.Error(i, load, ok)
		}
	}
	for i, c := range [][4]int64{{12000, 26000, 4, 12056}, {12000, 26001, 1, 12015}, {12000, 11999, 1, 12000}, {12000, 11000, 1, 11999}, {0, 40000, 1000, 40000}, {-1, 5, 5, 0}, {40001, 5, 5, 0}, {5, -1, 5, 0}, {5, 40001, 5, 0}, {5, 5, -1, 0}, {5, 5, 1001, 0}} {
		if w := fluid.Mixed(c[0], c[1], c[2]); w != c[3] {
			t.Error(i, w)
		}
	}
}

func TestP3_8HeightLine(t *testing.T) {
	for _, h := range holes() {
		l := fluid.Height(h)
		if earth.CheckLine(l, 1<<40, 1<<20) != api.OK || l.Knots[len(l.Knots)-1].At != fluid.Volume(h) {
			t.Fatal(h, l)
		}
		rise := int64(0)
		for i, s := range h.Segs {
			rise += s.Rise
			if l.Knots[i+1].V != rise {
				t.Fatal(h, l)
			}
		}
	}
}
