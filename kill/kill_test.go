package kill_test

import (
	"slices"
	"testing"

	"moonpool/api"
	"moonpool/kill"
)

// well is the well W of the chapter's examples, with p its program P, and k its kick K.
func well() api.Well {
	return api.Well{
		Hole:   api.Hole{Segs: []api.Seg{{Long: 100000, Rise: 100000, Area: 100, Gap: 50}}},
		Weight: 12000, Points: []api.Knot{{At: 2000000, V: 1200000000}}, Limit: 500000000, Pipe: 1000000, Step: 1000000,
	}
}

func p() api.Program {
	return api.Program{Kind: api.KillDriller, Weight: 13000, Margin: 10000000}
}

func k() api.Bubble { return api.Bubble{Volume: 1000000, Pore: 1250000000} }

func span(lo, hi int64) api.Range { return api.Range{Lo: lo, Hi: hi} }

// kind makes the program P of another kind.
func kind(n int) api.Program {
	x := p()
	x.Kind = n
	return x
}

func TestP7_1Check(t *testing.T) {
	if kill.Check(well()) != api.OK || kill.CheckProgram(p()) != api.OK || kill.CheckKick(k()) != api.OK {
		t.Error("they are valid")
	}
	for i, c := range []struct {
		change func(*api.Well)
		want   api.Errno
	}{
		{func(w *api.Well) { w.Hole.Segs = nil; w.Weight = -1 }, api.ErrShort}, {func(w *api.Well) { w.Hole.Segs[0].Long = 1<<20 + 1 }, api.ErrLong},
		{func(w *api.Well) { w.Weight = -1; w.Points = make([]api.Knot, 9) }, api.ErrRange}, {func(w *api.Well) { w.Weight = 40001 }, api.ErrRange},
		{func(w *api.Well) { w.Points = make([]api.Knot, 9); w.Limit = -1 }, api.ErrFull}, {func(w *api.Well) { w.Points[0].At = -1 }, api.ErrRange}, {func(w *api.Well) { w.Points[0].At = 10000001 }, api.ErrRange}, {func(w *api.Well) { w.Points[0].At = 10000000 }, api.OK},
		{func(w *api.Well) { w.Points[0].V = -1 }, api.ErrRange}, {func(w *api.Well) { w.Points[0].V = 1<<36 + 1 }, api.ErrRange}, {func(w *api.Well) { w.Points = append(w.Points, w.Points[0]) }, api.ErrOrder},
		{func(w *api.Well) { w.Points = []api.Knot{{At: 5}, {At: 5}, {At: -1}} }, api.ErrOrder}, {func(w *api.Well) { w.Points = []api.Knot{{At: 5}, {At: -1}, {At: -1}} }, api.ErrRange}, {func(w *api.Well) { w.Points = nil }, api.OK},
		{func(w *api.Well) { w.Limit = -1 }, api.ErrRange}, {func(w *api.Well) { w.Limit = 1<<36 + 1 }, api.ErrRange}, {func(w *api.Well) { w.Pipe = -1 }, api.ErrRange}, {func(w *api.Well) { w.Pipe = 1<<40 + 1 }, api.ErrRange}, {func(w *api.Well) { w.Pipe = 1 << 40 }, api.OK},
		{func(w *api.Well) { w.Step = 0 }, api.ErrRange}, {func(w *api.Well) { w.Step = 10000001 }, api.ErrRange}, {func(w *api.Well) { w.Step = 10000000 }, api.OK},
	} {
		w := well()
		c.change(&w)
		if e := kill.Check(w); e != c.want {
			t.Error(i, e, c.want)
		}
		if c.want == api.OK {
			continue
		}
		bad := api.Program{}
		_, a := kill.At(w, bad, api.Bubble{}, -1, 7)
		_, b := kill.Run(w, bad, api.Bubble{}, []int{7})
		_, d := kill.Ends(w, bad, api.Bubble{})
		_, _, f := kill.Verify(w, bad, nil, nil)
		_, g := kill.Tolerance(w, bad, 0, 0, 0)
		n, ok := kill.Last(w, p(), k())
		if a != c.want || b != c.want || d != c.want || f != c.want || g != c.want || n != 0 || ok {
			t.Error(i, a, b, d, f, g)
		}
	}
	for i, c := range []struct {
		p    api.Program
		want api.Errno
	}{{api.Program{Weight: -1}, api.ErrKind}, {kind(4), api.ErrKind}, {kind(2), api.OK}, {kind(3), api.OK}, {api.Program{Kind: 1, Weight: -1}, api.ErrRange}, {api.Program{Kind: 1, Weight: 40001}, api.ErrRange}, {api.Program{Kind: 1, Margin: -1}, api.ErrRange}, {api.Program{Kind: 1, Margin: 1<<34 + 1}, api.ErrRange}, {api.Program{Kind: 1, Err: -1}, api.ErrRange}, {api.Program{Kind: 1, Err: 1<<34 + 1}, api.ErrRange}, {api.Program{Kind: 1, Weight: 40000, Margin: 1 << 34, Err: 1 << 34}, api.OK}} {
		if e := kill.CheckProgram(c.p); e != c.want {
			t.Error(i, e)
		}
	}
	for i, c := range []struct {
		k    api.Bubble
		want api.Errno
	}{{api.Bubble{Volume: 1, Pore: 1}, api.OK}, {api.Bubble{Volume: 1 << 24, Pore: 1 << 34}, api.OK}, {api.Bubble{Volume: 0, Pore: 1}, api.ErrRange}, {api.Bubble{Volume: 1<<24 + 1, Pore: 1}, api.ErrRange}, {api.Bubble{Volume: 1, Pore: 0}, api.ErrRange}, {api.Bubble{Volume: 1, Pore: 1<<34 + 1}, api.ErrRange}} {
		if e := kill.CheckKick(c.k); e != c.want {
			t.Error(i, e)
		}
	}
}

func TestP7_1Bottom(t *testing.T) {
	rough := p()
	rough.Err = 3
	for i, c := range []struct {
		p    api.Program
		k    api.Bubble
		err  int
		want int64
	}{{p(), k(), 0, 1260000000}, {rough, k(), -1, 1259999997}, {rough, k(), 1, 1260000003}, {rough, k(), 2, 0}, {rough, k(), -2, 0}, {api.Program{}, k(), 0, 0}, {rough, api.Bubble{}, 0, 0}, {api.Program{Kind: 1, Err: 500}, api.Bubble{Volume: 1, Pore: 500}, -1, 1}, {api.Program{Kind: 1, Err: 600}, api.Bubble{Volume: 1, Pore: 500}, -1, 1}} {
		if b := kill.Bottom(c.p, c.k, c.err); b != c.want {
			t.Error(i, b)
		}
	}
}

func TestP7_2At(t *testing.T) {
	w := well()
	for i, c := range []struct {
		p    api.Program
		step int
		want api.Moment
	}{
		{p(), 0, api.Moment{Gas: span(992063, 992064), Base: span(1260000000, 1260000000), Surface: span(179040000, 179052000), Points: []api.Range{span(1139040000, 1139052000)}}},
		// The top of the gas is from 20964 to 20965, above the point at 20000.
		{p(), 1, api.Moment{Pumped: 1000000, Gas: span(1096491, 1096492), Base: span(1140000000, 1140000000), Surface: span(191568000, 191580000), Points: []api.Range{span(1140000000, 1140000000)}}},
		// The point is below the gas now: 1260000000 less 20000 times 12000.
		{p(), 2, api.Moment{Pumped: 2000000, Gas: span(1225490, 1225491), Base: span(1020000000, 1020000000), Surface: span(207060000-12000, 207060000), Points: []api.Range{span(1020000000, 1020000000)}}},
		{kind(api.KillWait), 1, api.Moment{Pumped: 1000000, Gas: span(1096491, 1096492), Base: span(1140000000, 1140000000), Surface: span(191568000, 191580000), Points: []api.Range{span(1140000000, 1140000000)}}},
		// Kill mud fills the lowest 10000 cm.
		{kind(api.KillWait), 2, api.Moment{Pumped: 2000000, Gas: span(1237623, 1237624), Base: span(1010000000, 1010000000), Surface: span(198512000, 198524000), Points: []api.Range{span(1010000000, 1010000000)}}},
		// Kill mud from the top: 10000 cm of it.
		{kind(api.KillBull), 0, api.Moment{Gas: span(992063, 992064), Base: span(1260000000, 1260000000), Surface: span(179040000, 179052000), Points: []api.Range{span(1139040000, 1139052000)}}},
		{kind(api.KillBull), 1, api.Moment{Pumped: 1000000, Gas: span(0, 0), Base: span(1260000000, 1260000000), Surface: span(50000000, 50000000), Points: []api.Range{span(1020000000, 1020000000)}}},
	} {
		m, e := kill.At(w, c.p, k(), c.step, 0)
		if e != api.OK || m.Pumped != c.want.Pumped || m.Gas != c.want.Gas || m.Base != c.want.Base || m.Surface != c.want.Surface || !slices.Equal(m.Points, c.want.Points) {
			t.Error(i, m, e, c.want)
		}
	}
	for i, c := range []struct {
		p         api.Program
		k         api.Bubble
		step, err int
		want      api.Errno
	}{{api.Program{}, api.Bubble{}, -1, 0, api.ErrKind}, {p(), api.Bubble{}, -1, 0, api.ErrRange}, {p(), k(), -1, 0, api.ErrRange}, {p(), k(), 401, 0, api.ErrRange}, {p(), k(), 400, 0, api.OK}, {p(), k(), 0, -2, api.ErrRange}, {p(), k(), 0, 2, api.ErrRange}, {p(), k(), 0, 1, api.OK}} {
		m, e := kill.At(w, c.p, c.k, c.step, c.err)
		if e != c.want || e != api.OK && (m.Base != span(0, 0) || m.Points != nil) {
			t.Error(i, m, e)
		}
	}
}

// odd is a well in which nearly all heights are broken.
func odd() api.Well {
	return api.Well{
		Hole:   api.Hole{Segs: []api.Seg{{Long: 10, Rise: 7, Area: 3, Gap: 5}, {Long: 20, Rise: 11, Area: 7, Gap: 5}}},
		Weight: 100, Points: []api.Knot{{At: 0, V: 1 << 36}, {At: 4, V: 1 << 36}, {At: 11, V: 1 << 36}, {At: 170, V: 1 << 36}}, Limit: 1 << 36, Pipe: 5, Step: 10,
	}
}

func TestP7_2OddHeights(t *testing.T) {
	w, x := odd(), api.Program{Kind: api.KillWait, Weight: 130, Margin: 20}
	// Of 30 + 140 cm3, 10 are pumped, and 5 of these are kill mud: the heights are [5] = 1 to 2, [10] = 2 to 3.
	m, e := kill.At(w, x, api.Bubble{Volume: 40, Pore: 5000}, 1, 0)
	base := span(5020-2*130-2*100, 5020-130-0*100)
	if e != api.OK || m.Base != base {
		t.Error(m, e)
	}
	// 200000 / 4890 is 40.9, 200000 / 4560 is 43.9: the top is from 50 (8 to 9) to 54 (8 to 9).
	if m.Gas != span(40, 44) || m.Surface != span(base.Lo-1000, base.Hi-900) {
		t.Error(m)
	}
	// The point at 0 is at the bottom, that at 4 in kill mud at 0 to 1, that at 11 in the gas, that at 170 at the choke.
	want := []api.Range{span(5020, 5020), span(5020-130, 5020), span(base.Lo, base.Hi), m.Surface}
	if !slices.Equal(m.Points, want) {
		t.Error(m.Points, want)
	}
	// With 20 pumped the point at 11 is in mud: [11] is 2 to 3, [15] is 3 to 4, [20] is 4 to 5.
	m, e = kill.At(w, x, api.Bubble{Volume: 40, Pore: 5000}, 2, 0)
	if e != api.OK || m.Base != span(5020-4*130-2*100, 5020-3*130) || m.Points[2] != span(5020-3*130, 5020-2*130) {
		t.Error(m, e)
	}
	// Bull: with 10 pumped the kill mud begins at 160 (17 to 18); the gas is from 29 to 30 (6 to 7, and 7).
	x.Kind = api.KillBull
	m, e = kill.At(w, x, api.Bubble{Volume: 40, Pore: 5000}, 1, 0)
	want = []api.Range{span(5020, 5020), span(5020, 5020), span(5020, 5020), span(5020-12*100-130, 5020-10*100)}
	if e != api.OK || m.Gas != span(29, 30) || m.Base != span(5020, 5020) || m.Points[2] != want[2] {
		t.Error(m, e)
	}
	// [160] is 17.21, [30] is 7, [29] is 6.77: the mud is 10 to 12 high, the kill mud 0 to 1.
	if !slices.Equal(m.Points, want) || m.Surface != want[3] {
		t.Error(m, want)
	}
}

func TestP7_2Last(t *testing.T) {
	small := well()
	small.Step = 1000
	for i, c := range []struct {
		w    api.Well
		p    api.Program
		k    api.Bubble
		want int
		ok   bool
	}{
		// At the step 8 the base is 300000000, so that the gas is 4.2 times 10^6 cm3; at the step 7 it is 2.98 times 10^6.
		{well(), p(), k(), 8, true}, {well(), kind(api.KillBull), k(), 1, true}, {small, p(), k(), 400, false}, {small, kind(api.KillBull), k(), 400, false},
		{well(), api.Program{}, k(), 0, false}, {well(), p(), api.Bubble{}, 0, false}, {api.Well{}, p(), k(), 0, false},
	} {
		if n, ok := kill.Last(c.w, c.p, c.k); n != c.want || ok != c.ok {
			t.Error(i, n, ok)
		}
	}
}

func TestP7_2Run(t *testing.T) {
	rough := p()
	rough.Err = 1000000
	l, e := kill.Run(well(), rough, k(), []int{1, -1, 0, 1})
	if e != api.OK || len(l) != 9 {
		t.Fatal(len(l), e)
	}
	for i, m := range l {
		err := []int{1, -1, 0, 1, 0, 0, 0, 0, 0}[i]
		want, _ := kill.At(well(), rough, k(), i, err)
		if m.Base != want.Base || m.Surface != want.Surface || !slices.Equal(m.Points, want.Points) || m.Pumped != int64(i)*1000000 {
			t.Error(i, m, want)
		}
	}
	small := well()
	small.Step = 1000
	if l, e := kill.Run(small, p(), k(), nil); e != api.OK || len(l) != 401 {
		t.Error(len(l), e)
	}
	for i, c := range []struct {
		errs []int
		want api.Errno
	}{{[]int{2}, api.ErrRange}, {[]int{0, -2}, api.ErrRange}, {make([]int, 401), api.ErrRange}, {make([]int, 400), api.OK}, {append(make([]int, 399), 5), api.ErrRange}} {
		if _, e := kill.Run(well(), p(), k(), c.errs); e != c.want {
			t.Error(i, e)
		}
	}
	if _, e := kill.Run(well(), api.Program{}, k(), []int{9}); e != api.ErrKind {
		t.Error(e)
	}
}

func TestP7_3Ends(t *testing.T) {
	type change func(*api.Well, *api.Program, *api.Bubble)
	for i, c := range []struct {
		change change
		want   api.Outcome
	}{
		{func(w *api.Well, p *api.Program, k *api.Bubble) {}, api.Outcome{Is: api.Killed, Step: 8}},
		{func(w *api.Well, p *api.Program, k *api.Bubble) { w.Limit = 179051999 }, api.Outcome{Is: api.Unsure, Step: 0, Err: -1, Why: api.WhyLimit}},
		{func(w *api.Well, p *api.Program, k *api.Bubble) { w.Limit = 179039999 }, api.Outcome{Is: api.Broken, Step: 0, Err: -1, Why: api.WhyLimit}},
		{func(w *api.Well, p *api.Program, k *api.Bubble) { w.Points[0].V = 1130000000 }, api.Outcome{Is: api.Broken, Step: 0, Err: -1, Why: api.WhyFrac}},
		{func(w *api.Well, p *api.Program, k *api.Bubble) { w.Points[0].V = 1139040000 }, api.Outcome{Is: api.Unsure, Step: 0, Err: -1, Why: api.WhyFrac}},
		{func(w *api.Well, p *api.Program, k *api.Bubble) {
			w.Points = append([]api.Knot{{At: 0, V: 1260000000}}, w.Points...)
			w.Points[1].V = 1139052000
		}, api.Outcome{Is: api.Broken, Step: 1, Err: -1, Why: api.WhyFrac, Point: 1}},
		{func(w *api.Well, p *api.Program, k *api.Bubble) { p.Margin, p.Err = 1000, 1001 }, api.Outcome{Is: api.Broken, Step: 0, Err: -1, Why: api.WhyPore}},
		{func(w *api.Well, p *api.Program, k *api.Bubble) {
			p.Margin, p.Err = 1000000, 1000000
			w.Points[0].V = 1130915999
		}, api.Outcome{Is: api.Unsure, Step: 0, Err: 0, Why: api.WhyFrac}},
		{func(w *api.Well, p *api.Program, k *api.Bubble) { w.Weight = 14000 }, api.Outcome{Is: api.Broken, Step: 0, Err: -1, Why: api.WhyChoke}},
		{func(w *api.Well, p *api.Program, k *api.Bubble) { w.Step = 1000 }, api.Outcome{Is: api.Unsure, Step: 400, Why: api.WhyLong}},
		{func(w *api.Well, p *api.Program, k *api.Bubble) { p.Weight = 12499 }, api.Outcome{Is: api.Broken, Step: 8, Why: api.WhyDead}},
		{func(w *api.Well, p *api.Program, k *api.Bubble) { p.Weight = 12500 }, api.Outcome{Is: api.Killed, Step: 8}},
		{func(w *api.Well, p *api.Program, k *api.Bubble) { p.Weight = 15001 }, api.Outcome{Is: api.Broken, Step: 8, Why: api.WhyDead}},
		{func(w *api.Well, p *api.Program, k *api.Bubble) { p.Weight = 15000 }, api.Outcome{Is: api.Killed, Step: 8}},
		{func(w *api.Well, p *api.Program, k *api.Bubble) {
			p.Weight = 15001
			w.Points = append([]api.Knot{{At: 1000000, V: 1500000000}}, w.Points...)
		}, api.Outcome{Is: api.Broken, Step: 8, Why: api.WhyDead, Point: 1}},
		{func(w *api.Well, p *api.Program, k *api.Bubble) {
			p.Weight = 15001
			w.Points = []api.Knot{{At: 1999999, V: 15001 * 80000}}
		}, api.Outcome{Is: api.Unsure, Step: 8, Why: api.WhyDead}},
	} {
		w, x, b := well(), p(), k()
		c.change(&w, &x, &b)
		if o, e := kill.Ends(w, x, b); o != c.want || e != api.OK {
			t.Error(i, o, e, c.want)
		}
	}
	if o, e := kill.Ends(well(), api.Program{}, k()); o != (api.Outcome{}) || e != api.ErrKind {
		t.Error(o, e)
	}
	if o, e := kill.Ends(well(), p(), api.Bubble{}); o != (api.Outcome{}) || e != api.ErrRange {
		t.Error(o, e)
	}
	// The mud above the gas is from 99 to 101 high, so that the pressure at the choke may be below 0.
	thin := odd()
	if o, e := kill.Ends(thin, api.Program{Kind: 1, Weight: 300}, api.Bubble{Volume: 1, Pore: 1750}); e != api.OK || o.Is != api.Unsure || o.Why != api.WhyChoke {
		t.Error(o, e)
	}
}

func TestP7_4Verify(t *testing.T) {
	w := well()
	volumes, pores := []int64{500000, 1000000, 1500000}, []int64{1240000000, 1250000000}
	if b, o, e := kill.Verify(w, p(), volumes, pores); b != (api.Bubble{Volume: 1500000, Pore: 1250000000}) || o.Is != api.Killed || e != api.OK {
		t.Error(b, o, e)
	}
	w.Points[0].V = 1139051999
	if b, o, e := kill.Verify(w, p(), volumes, pores); b != k() || o.Is != api.Unsure || o.Why != api.WhyFrac || e != api.OK {
		t.Error(b, o, e)
	}
	many := []int64{1, 2, 3, 4, 5, 6, 7, 8, 9}
	for i, c := range []struct {
		p              api.Program
		volumes, pores []int64
		want           api.Errno
	}{
		{api.Program{}, nil, nil, api.ErrKind}, {p(), nil, pores, api.ErrShort}, {p(), volumes, nil, api.ErrShort}, {p(), many, pores, api.ErrFull}, {p(), volumes, many, api.ErrFull}, {p(), []int64{5, 5}, pores, api.ErrOrder}, {p(), volumes, []int64{5, 4}, api.ErrOrder},
		{p(), []int64{0}, []int64{5, 4}, api.ErrOrder}, {p(), []int64{0}, pores, api.ErrRange}, {p(), volumes, []int64{0}, api.ErrRange}, {p(), []int64{1<<24 + 1}, pores, api.ErrRange}, {p(), volumes, []int64{1<<34 + 1}, api.ErrRange}, {p(), many[:8], pores, api.OK},
	} {
		b, o, e := kill.Verify(well(), c.p, c.volumes, c.pores)
		if e != c.want || e != api.OK && (b != api.Bubble{} || o != api.Outcome{}) {
			t.Error(i, b, o, e)
		}
	}
}

func TestP7_5ToleranceAndChoose(t *testing.T) {
	w := well()
	w.Points[0].V = 1139052000 - 12000
	for i, c := range []struct {
		pore, step int64
		most       int
		want       int
		e          api.Errno
	}{
		{1250000000, 1 << 16, 64, 0, api.OK}, {1240000000, 1 << 16, 64, 0, api.OK}, {1, 1, 0, 0, api.OK},
		{0, 1, 0, 0, api.ErrRange}, {1<<34 + 1, 1, 0, 0, api.ErrRange}, {1, 0, 0, 0, api.ErrRange}, {1, 1<<16 + 1, 0, 0, api.ErrRange}, {1, 1, -1, 0, api.ErrRange}, {1, 1, 65, 0, api.ErrRange},
	} {
		n, e := kill.Tolerance(w, p(), c.pore, c.step, c.most)
		if c.want == 0 && c.e == api.OK && c.most > 0 {
			// What is counted is what Ends says.
			for c.want < c.most {
				o, _ := kill.Ends(w, p(), api.Bubble{Volume: int64(c.want+1) * c.step, Pore: c.pore})
				if o.Is != api.Killed {
					break
				}
				c.want++
			}
			if c.want == 0 {
				t.Error(i, "nothing is tolerated")
			}
		}
		if n != c.want || e != c.e {
			t.Error(i, n, e, c.want)
		}
	}
	if _, e := kill.Tolerance(w, api.Program{}, 0, 0, 0); e != api.ErrKind {
		t.Error(e)
	}
	light := p()
	light.Weight = 12400
	volumes, pores := []int64{1000000}, []int64{1250000000}
	for i, c := range []struct {
		l              []api.Program
		volumes, pores []int64
		want           int
		e              api.Errno
	}{
		{[]api.Program{light, p(), kind(2)}, volumes, pores, 1, api.OK}, {[]api.Program{light, light}, volumes, pores, -1, api.OK}, {nil, nil, nil, -1, api.OK}, {[]api.Program{p(), {}}, volumes, pores, 0, api.OK}, {[]api.Program{light, {}, p()}, volumes, pores, 0, api.ErrKind}, {[]api.Program{p()}, nil, pores, 0, api.ErrShort}, {make([]api.Program, 9), nil, nil, 0, api.ErrFull},
	} {
		if n, e := kill.Choose(well(), c.l, c.volumes, c.pores); n != c.want || e != c.e {
			t.Error(i, n, e)
		}
	}
}
