package earth_test

import (
	"math/rand"
	"slices"
	"testing"

	"moonpool/api"
	"moonpool/earth"
)

// line makes a line from pairs of numbers.
func line(l ...int64) api.Line {
	var x api.Line
	for i := 0; i+1 < len(l); i += 2 {
		x.Knots = append(x.Knots, api.Knot{At: l[i], V: l[i+1]})
	}
	return x
}

// roof is the line L of the chapter's examples, known its earth E.
func roof() api.Line { return line(0, 100, 10, 200, 30, 100) }

func known(reports ...api.Report) api.Earth {
	return api.Earth{Bottom: 100000, PoreLo: line(0, 0, 100000, 900000000), PoreHi: line(0, 0, 100000, 1200000000), FracLo: line(0, 0, 100000, 1500000000), FracHi: line(0, 0, 100000, 2000000000), GHi: 30000, Reports: reports}
}

func report(kind int, z, p int64) api.Report { return api.Report{Kind: kind, Z: z, P: p} }

func span(lo, hi int64) api.Range { return api.Range{Lo: lo, Hi: hi} }

func TestP2_1CheckLine(t *testing.T) {
	many := api.Line{Knots: make([]api.Knot, 25)}
	full := api.Line{}
	for i := range 24 {
		full.Knots = append(full.Knots, api.Knot{At: int64(i), V: 5})
	}
	for i, c := range []struct {
		l     api.Line
		at, v int64
		want  api.Errno
	}{
		{roof(), 30, 200, api.OK}, {roof(), 29, 200, api.ErrRange}, {roof(), 30, 199, api.ErrRange},
		{api.Line{}, 1, 1, api.ErrShort}, {line(5, 1, 5, 2), 9, 9, api.ErrOrder}, {many, 1, 1, api.ErrFull}, {full, 23, 5, api.OK},
		{api.Line{}, -1, 1, api.ErrRange}, {api.Line{}, 1<<40 + 1, 1, api.ErrRange}, {api.Line{}, 1, -1, api.ErrRange}, {api.Line{}, 1, 1<<36 + 1, api.ErrRange},
		{line(1<<40, 1<<36), 1 << 40, 1 << 36, api.OK}, {line(-1, 0), 9, 9, api.ErrRange}, {line(0, -1), 9, 9, api.ErrRange},
		{line(5, 1, 4, 1, 10, 1), 9, 9, api.ErrOrder}, {line(5, 1, 10, 1, 4, 1), 9, 9, api.ErrRange}, {line(5, 1, 4, 10), 9, 9, api.ErrRange},
	} {
		if e := earth.CheckLine(c.l, c.at, c.v); e != c.want {
			t.Error(i, e, c.want)
		}
	}
}

func TestP2_2At(t *testing.T) {
	for _, c := range []struct {
		l    api.Line
		x    int64
		want api.Range
	}{
		{roof(), -5, span(100, 100)}, {roof(), 5, span(150, 150)}, {roof(), 13, span(185, 185)}, {roof(), 11, span(195, 195)}, {roof(), 99, span(100, 100)}, {roof(), 10, span(200, 200)},
		{line(0, 0, 3, 10), 1, span(3, 4)}, {line(0, 10, 3, 0), 1, span(6, 7)}, {line(7, 8), -1 << 63, span(8, 8)}, {line(7, 8), 1<<63 - 1, span(8, 8)},
		{line(0, 0, 1<<20, 1<<36), 1<<20 - 1, span(1<<36-1<<16, 1<<36-1<<16)}, {line(0, 0, 1<<40, 1<<20), 1<<40 - 1, span(1<<20-1, 1<<20)},
		{line(0, 0, 1<<20+1, 1<<36), 5, span(0, 0)}, {line(0, 7, 1<<20+1, 1<<20+1), 0, span(0, 0)}, {api.Line{}, 0, span(0, 0)},
	} {
		if r := earth.At(c.l, c.x); r != c.want {
			t.Error(c.l, c.x, r, c.want)
		}
	}
}

func TestP2_2LeastMostAbove(t *testing.T) {
	l := roof()
	for i, c := range []struct{ got, want api.Range }{
		{earth.Least(l, 5, 15), span(150, 150)}, {earth.Most(l, 5, 15), span(200, 200)}, {earth.Least(l, 0, 40), span(100, 100)}, {earth.Most(l, 10, 40), span(200, 200)}, {earth.Most(l, 11, 40), span(195, 195)},
		{earth.Least(l, 15, 5), span(0, 0)}, {earth.Most(l, 15, 14), span(0, 0)}, {earth.Least(api.Line{}, 0, 0), span(0, 0)}, {earth.Least(line(0, 0, 3, 10), 1, 2), span(3, 4)}, {earth.Most(line(0, 0, 3, 10), 1, 2), span(6, 7)},
		{earth.Least(l, -1<<63, 1<<63-1), span(100, 100)},
	} {
		if c.got != c.want {
			t.Error(i, c)
		}
	}
	for i, c := range []struct {
		a, b api.Line
		want bool
	}{
		{l, line(0, 100), true}, {l, line(0, 101), false}, {line(0, 200), l, true}, {line(0, 199), l, false}, {l, l, true},
		{line(0, 0, 3, 10), line(1, 3), false}, {line(1, 4), line(0, 0, 1, 4), true}, {line(0, 0, 3, 10, 6, 0), line(0, 0, 2, 6, 6, 0), true}, {line(0, 0, 3, 10, 6, 0), line(0, 0, 2, 7, 6, 0), false},
		{api.Line{}, l, false}, {l, api.Line{}, false}, {line(0, 1<<36), line(1<<40, 1<<20), true},
	} {
		if got := earth.Above(c.a, c.b); got != c.want {
			t.Error(i, got)
		}
	}
}

func TestP2_3Check(t *testing.T) {
	if e := earth.Check(known()); e != api.OK {
		t.Error(e)
	}
	for i, c := range []struct {
		change func(*api.Earth)
		want   api.Errno
	}{
		{func(e *api.Earth) { e.Bottom = 0 }, api.ErrRange}, {func(e *api.Earth) { e.Bottom = 1<<20 + 1 }, api.ErrRange},
		{func(e *api.Earth) { e.GLo = -1 }, api.ErrRange}, {func(e *api.Earth) { e.GLo = 30001 }, api.ErrRange}, {func(e *api.Earth) { e.GHi = 40001 }, api.ErrRange},
		{func(e *api.Earth) { e.PoreLo = api.Line{}; e.PoreHi = line(-1, 0) }, api.ErrShort},
		{func(e *api.Earth) { e.PoreHi = line(0, 1<<36+1) }, api.ErrRange}, {func(e *api.Earth) { e.FracLo = line(1<<20+1, 0) }, api.ErrRange},
		{func(e *api.Earth) { e.FracHi = line(5, 0, 5, 0) }, api.ErrOrder}, {func(e *api.Earth) { e.FracHi.Knots = make([]api.Knot, 25) }, api.ErrFull},
		{func(e *api.Earth) { e.PoreHi = line(0, 0, 100000, 899999999) }, api.ErrClash}, {func(e *api.Earth) { e.FracHi = line(0, 0, 100000, 1499999999) }, api.ErrClash},
		{func(e *api.Earth) { e.FracLo, e.FracHi = line(0, 0), line(0, 0, 100000, 899999999) }, api.ErrClash},
		{func(e *api.Earth) { e.Reports = make([]api.Report, 25) }, api.ErrFull},
		{func(e *api.Earth) { e.Reports = []api.Report{report(0, -1, 0)} }, api.ErrKind}, {func(e *api.Earth) { e.Reports = []api.Report{report(5, 0, 0)} }, api.ErrKind},
		{func(e *api.Earth) { e.Reports = []api.Report{report(1, -1, 0), report(0, 0, 0)} }, api.ErrRange},
		{func(e *api.Earth) { e.Reports = []api.Report{report(4, 100001, 0)} }, api.ErrRange}, {func(e *api.Earth) { e.Reports = []api.Report{report(3, 0, 1<<36+1)} }, api.ErrRange},
		{func(e *api.Earth) { e.Reports = []api.Report{report(2, 100000, 1<<36)} }, api.OK},
	} {
		e := known()
		c.change(&e)
		if got := earth.Check(e); got != c.want {
			t.Error(i, got, c.want)
		}
		if c.want != api.OK && (earth.Depths(e) != nil || earth.Pore(e, 0) != span(0, 0) || earth.Frac(e, 5) != span(0, 0) || earth.Window(e, 5) != span(0, 0) || earth.Conflicts(e) != nil || earth.Fits(e, truth())) {
			t.Error(i, "an earth that is not valid")
		}
	}
}

// truth is one that fits known.
func truth() api.Truth {
	return api.Truth{Pore: line(0, 0, 100000, 1000000000), Frac: line(0, 0, 100000, 1700000000)}
}

func TestP2_3Truth(t *testing.T) {
	for i, c := range []struct {
		t      api.Truth
		bottom int64
		want   api.Errno
	}{
		{truth(), 100000, api.OK}, {truth(), 99999, api.ErrForm}, {api.Truth{Pore: line(1, 0, 9, 0), Frac: line(0, 0, 9, 0)}, 9, api.ErrForm},
		{api.Truth{Pore: line(1, 0), Frac: api.Line{}}, 9, api.ErrShort}, {api.Truth{Pore: api.Line{}, Frac: line(-1, 0)}, 9, api.ErrShort}, {api.Truth{Pore: line(0, 0, 9, 0), Frac: line(0, 0, 8, 0)}, 9, api.ErrForm},
		{api.Truth{Pore: line(0, 0, 1<<20+1, 0), Frac: line(0, 0)}, 9, api.ErrRange},
	} {
		if e := earth.CheckTruth(c.t, c.bottom); e != c.want {
			t.Error(i, e)
		}
	}
	for i, c := range []struct {
		e    api.Earth
		t    api.Truth
		want bool
	}{
		{known(), truth(), true},
		{known(), api.Truth{Pore: truth().Frac, Frac: truth().Frac}, false},
		{known(), api.Truth{Pore: truth().Pore, Frac: line(0, 0, 100000, 1499999999)}, false},
		{known(), api.Truth{Pore: line(0, 0, 50000, 449999999, 100000, 1000000000), Frac: truth().Frac}, false},
		{known(), api.Truth{Pore: line(0, 0, 50000, 450000000, 100000, 900000000), Frac: truth().Frac}, true},
		{known(), api.Truth{Pore: line(0, 0, 50000, 600000001, 100000, 1000000000), Frac: truth().Frac}, false},
		{known(), api.Truth{Pore: line(0, 0, 100000, 1000000000), Frac: line(0, 0, 50000, 1000000001, 100000, 1700000000)}, false},
		{known(report(api.ReportInflux, 50000, 500000000)), truth(), true}, {known(report(api.ReportInflux, 50000, 500000001)), truth(), false},
		{known(report(api.ReportDry, 50000, 500000000)), truth(), true}, {known(report(api.ReportDry, 50000, 499999999)), truth(), false},
		{known(report(api.ReportHeld, 50000, 850000000)), truth(), true}, {known(report(api.ReportHeld, 50000, 850000001)), truth(), false},
		{known(report(api.ReportLeak, 50000, 850000000)), truth(), true}, {known(report(api.ReportLeak, 50000, 849999999)), truth(), false},
	} {
		if got := earth.Fits(c.e, c.t); got != c.want {
			t.Error(i, got)
		}
	}
	steep := known()
	steep.GLo, steep.GHi = 10000, 17000
	if !earth.Fits(steep, truth()) {
		t.Error("the gradients are at their bounds")
	}
	for _, g := range [][2]int64{{10001, 17000}, {10000, 16999}} {
		steep.GLo, steep.GHi = g[0], g[1]
		if earth.Fits(steep, truth()) {
			t.Error("a gradient is beyond a bound", g)
		}
	}
	// The pore pressure may be greater than the fracture pressure within the bounds of each.
	wide := known()
	wide.PoreHi, wide.FracLo = wide.FracHi, wide.PoreLo
	if earth.Fits(wide, api.Truth{Pore: truth().Frac, Frac: truth().Pore}) || !earth.Fits(wide, api.Truth{Pore: truth().Pore, Frac: truth().Pore}) {
		t.Error("the fracture pressure is not less than the pore pressure")
	}
	// What lies below the bottom does not matter.
	deep := known()
	deep.PoreLo = line(0, 0, 100000, 900000000, 200000, 1<<36)
	deep.PoreHi, deep.FracHi = line(0, 0, 100000, 1200000000, 200000, 1<<36), line(0, 0, 100000, 2000000000, 200000, 1<<36)
	if earth.Check(deep) != api.OK || !earth.Fits(deep, truth()) {
		t.Error("below the bottom")
	}
}

func TestP2_3Ranges(t *testing.T) {
	e := known()
	if p, f, w := earth.Pore(e, 50000), earth.Frac(e, 50000), earth.Window(e, 50000); p != span(450000000, 600000000) || f != span(750000000, 1000000000) || w != span(600000000, 750000000) {
		t.Error(p, f, w)
	}
	for i, c := range []struct {
		got, want api.Range
	}{
		{earth.Pore(known(report(api.ReportDry, 40000, 400000000)), 50000), span(450000000, 600000000)},
		{earth.Pore(known(report(api.ReportDry, 40000, 380000000)), 40000), span(360000000, 380000000)},
		{earth.Pore(known(report(api.ReportDry, 40000, 380000000)), 30000), span(270000000, 360000000)},
		{earth.Pore(known(report(api.ReportDry, 40000, 300000000)), 30000), span(270000000, 300000000)},
		{earth.Pore(known(report(api.ReportInflux, 40000, 470000000)), 41000), span(470000000, 492000000)},
		{earth.Pore(known(report(api.ReportInflux, 40000, 470000000)), 39000), span(440000000, 468000000)},
		{earth.Frac(known(report(api.ReportHeld, 40000, 700000000)), 39000), span(670000000, 780000000)},
		{earth.Frac(known(report(api.ReportHeld, 40000, 700000000)), 41000), span(700000000, 820000000)},
		{earth.Frac(known(report(api.ReportLeak, 40000, 700000000)), 41000), span(615000000, 730000000)},
		{earth.Frac(known(report(api.ReportLeak, 40000, 700000000)), 39000), span(585000000, 700000000)},
		{earth.Pore(known(report(api.ReportLeak, 40000, 400000000)), 40000), span(360000000, 400000000)},
		{earth.Frac(known(report(api.ReportInflux, 40000, 700000000)), 40000), span(700000000, 800000000)},
		{earth.Pore(e, -1), span(0, 0)}, {earth.Pore(e, 100001), span(0, 0)}, {earth.Frac(e, -1), span(0, 0)}, {earth.Window(e, 100001), span(0, 0)},
		{earth.Pore(e, 100000), span(900000000, 1200000000)}, {earth.Pore(e, 0), span(0, 0)},
	} {
		if c.got != c.want {
			t.Error(i, c.got, c.want)
		}
	}
	e.GLo = 12000
	if p := earth.Pore(e, 99999); p != span(1199988000, 1199988000) {
		t.Error(p)
	}
	// A knot below the bottom bounds nothing, but the line does.
	e = known()
	e.GLo, e.Bottom = 13000, 50000
	if p := earth.Pore(e, 50000); p != span(650000000, 600000000) {
		t.Error(p)
	}
	if d := earth.Depths(e); !slices.Equal(d, []int64{0, 50000}) {
		t.Error(d)
	}
	if d := earth.Depths(known(report(1, 7, 0), report(2, 5, 0), report(1, 7, 1))); !slices.Equal(d, []int64{0, 5, 7, 100000}) {
		t.Error(d)
	}
}

func TestP2_4Add(t *testing.T) {
	e, r := known(), report(api.ReportDry, 5, 6)
	more, err := earth.Add(e, r)
	if err != api.OK || !slices.Equal(more.Reports, []api.Report{r}) || len(e.Reports) != 0 {
		t.Error(more, err)
	}
	full := known(slices.Repeat([]api.Report{r}, 24)...)
	for i, c := range []struct {
		e    api.Earth
		r    api.Report
		want api.Errno
	}{{e, report(9, 0, 0), api.ErrKind}, {e, report(1, 100001, 0), api.ErrRange}, {full, r, api.ErrFull}, {full, report(9, 0, 0), api.ErrFull}, {api.Earth{}, r, api.ErrRange}} {
		got, err := earth.Add(c.e, c.r)
		if err != c.want || !earth.Same(got, api.Earth{}) {
			t.Error(i, err)
		}
	}
}

func TestP2_4Conflicts(t *testing.T) {
	equal := func(a, b [][]int) bool {
		return slices.EqualFunc(a, b, func(x, y []int) bool { return slices.Equal(x, y) })
	}
	none := known()
	none.GLo, none.Bottom = 13000, 50000
	for i, c := range []struct {
		e    api.Earth
		want [][]int
	}{
		{known(), nil},
		{known(report(api.ReportInflux, 50000, 590000000), report(api.ReportDry, 60000, 550000000)), [][]int{{0, 1}}},
		{known(report(api.ReportDry, 50000, 440000000)), [][]int{{0}}},
		{known(report(api.ReportDry, 60000, 550000000), report(api.ReportDry, 50000, 440000000), report(api.ReportInflux, 50000, 590000000), report(api.ReportInflux, 60000, 551000000)), [][]int{{1}, {0, 2}, {0, 3}}},
		{known(report(api.ReportLeak, 50000, 800000000), report(api.ReportHeld, 40000, 799999999), report(api.ReportHeld, 40000, 800000001)), [][]int{{2}}},
		{known(report(api.ReportLeak, 50000, 760000000), report(api.ReportHeld, 40000, 760000000), report(api.ReportHeld, 40000, 760000001)), [][]int{{0, 2}}},
		{none, [][]int{{}}},
	} {
		if got := earth.Conflicts(c.e); !equal(got, c.want) {
			t.Error(i, got, c.want)
		}
	}
}

func TestP2_4SameAndCopy(t *testing.T) {
	e := known(report(1, 2, 3))
	for i, change := range []func(*api.Earth){
		func(e *api.Earth) { e.Bottom++ }, func(e *api.Earth) { e.GLo++ }, func(e *api.Earth) { e.GHi++ },
		func(e *api.Earth) { e.PoreLo.Knots[1].V++ }, func(e *api.Earth) { e.PoreHi.Knots[1].At++ }, func(e *api.Earth) { e.FracLo.Knots = nil }, func(e *api.Earth) { e.FracHi.Knots[0].V++ },
		func(e *api.Earth) { e.Reports[0].P++ },
	} {
		c := earth.Copy(e)
		if !earth.Same(c, e) {
			t.Error(i, "a copy differs")
		}
		change(&c)
		if earth.Same(c, e) || !earth.Same(e, known(report(1, 2, 3))) {
			t.Error(i, "a change")
		}
	}
	if !earth.Same(api.Earth{}, api.Earth{Reports: []api.Report{}, PoreLo: api.Line{Knots: []api.Knot{}}}) {
		t.Error("empty lists")
	}
}

// randomLine makes a line down to the bottom that grows by lo to hi a centimetre.
func randomLine(r *rand.Rand, bottom, lo, hi, start int64) api.Line {
	l := line(0, start)
	for l.Knots[len(l.Knots)-1].At < bottom {
		k := l.Knots[len(l.Knots)-1]
		to := min(bottom, k.At+1+r.Int63n(bottom/2))
		l.Knots = append(l.Knots, api.Knot{At: to, V: k.V + (to-k.At)*lo + r.Int63n((to-k.At)*(hi-lo)+1)})
		if len(l.Knots) == 24 {
			break
		}
	}
	return l
}

// around moves the knots of a line by up to most.
func around(r *rand.Rand, l api.Line, sign, most int64) api.Line {
	var m api.Line
	for _, k := range l.Knots {
		m.Knots = append(m.Knots, api.Knot{At: k.At, V: max(0, k.V+sign*r.Int63n(most))})
	}
	return m
}

// randomEarth makes an earth and a truth that fits it, with reports that are true.
func randomEarth(r *rand.Rand) (api.Earth, api.Truth) {
	const bottom = 400
	for {
		t := api.Truth{Pore: randomLine(r, bottom, 10, 20, 0), Frac: randomLine(r, bottom, 10, 20, r.Int63n(2000))}
		e := api.Earth{Bottom: bottom, GLo: 10 - r.Int63n(3), GHi: 20 + r.Int63n(3)}
		e.PoreLo, e.PoreHi = around(r, t.Pore, -1, 900), around(r, t.Pore, 1, 900)
		e.FracLo, e.FracHi = around(r, t.Frac, -1, 900), around(r, t.Frac, 1, 900)
		for range r.Intn(5) {
			e.Reports = append(e.Reports, randomReport(r, t))
		}
		if earth.Fits(e, t) {
			return e, t
		}
	}
}

// randomReport makes a report that is true of a truth.
func randomReport(r *rand.Rand, t api.Truth) api.Report {
	z := r.Int63n(401)
	switch kind := 1 + r.Intn(4); kind {
	case api.ReportInflux:
		return report(kind, z, max(0, earth.At(t.Pore, z).Lo-r.Int63n(100)))
	case api.ReportDry:
		return report(kind, z, earth.At(t.Pore, z).Hi+r.Int63n(100))
	case api.ReportHeld:
		return report(kind, z, max(0, earth.At(t.Frac, z).Lo-r.Int63n(100)))
	default:
		return report(kind, z, earth.At(t.Frac, z).Hi+r.Int63n(100))
	}
}

func TestP2_5To2_7Enclosure(t *testing.T) {
	r := rand.New(rand.NewSource(5))
	inside := func(a, b api.Range) bool { return a.Lo >= b.Lo && a.Hi <= b.Hi }
	for range 150 {
		e, truth := randomEarth(r)
		if c := earth.Conflicts(e); c != nil {
			t.Fatal("conflicts", e, c)
		}
		more, err := earth.Add(e, randomReport(r, truth))
		if err != api.OK || !earth.Fits(more, truth) {
			t.Fatal("a report that is true", more)
		}
		for z := int64(0); z <= 400; z += 7 {
			p, f, w := earth.Pore(e, z), earth.Frac(e, z), earth.Window(e, z)
			if !inside(earth.At(truth.Pore, z), p) || !inside(earth.At(truth.Frac, z), f) || w != span(p.Hi, f.Lo) {
				t.Fatal(e, truth, z, p, f)
			}
			if !inside(earth.Pore(more, z), p) || !inside(earth.Frac(more, z), f) {
				t.Fatal("a report more", e, more, z)
			}
		}
	}
}

func TestP2_8ConflictsAreNeeded(t *testing.T) {
	r := rand.New(rand.NewSource(88))
	found := 0
	for range 200 {
		e, truth := randomEarth(r)
		for range 3 {
			wrong := randomReport(r, truth)
			wrong.P = max(0, wrong.P+r.Int63n(2400)-1200)
			e.Reports = append(e.Reports, wrong)
		}
		with := func(set []int, without int) api.Earth {
			part := earth.Copy(e)
			part.Reports = nil
			for i, x := range set {
				if i != without {
					part.Reports = append(part.Reports, e.Reports[x])
				}
			}
			return part
		}
		gone := map[int]bool{}
		for _, set := range earth.Conflicts(e) {
			found++
			if len(set) < 1 || len(set) > 2 || !slices.IsSorted(set) || len(earth.Conflicts(with(set, -1))) != 1 {
				t.Fatal(set)
			}
			for i := range set {
				if len(earth.Conflicts(with(set, i))) != 0 {
					t.Fatal("one is not needed", set)
				}
			}
			gone[set[len(set)-1]] = true
		}
		var rest []int
		for i := range e.Reports {
			if !gone[i] {
				rest = append(rest, i)
			}
		}
		if c := earth.Conflicts(with(rest, -1)); len(c) != 0 {
			t.Fatal("one of each conflict is left out", c)
		}
	}
	if found < 50 {
		t.Error("too few conflicts", found)
	}
}

func TestP2_9And2_10Lines(t *testing.T) {
	r := rand.New(rand.NewSource(9))
	for range 200 {
		l := line(r.Int63n(5), r.Int63n(50), 5+r.Int63n(9), r.Int63n(50), 20+r.Int63n(9), r.Int63n(50))
		m := line(r.Int63n(5), r.Int63n(50), 5+r.Int63n(9), r.Int63n(50))
		from := r.Int63n(30) - 3
		to := from + r.Int63n(20)
		least, most := earth.At(l, from), earth.At(l, from)
		above := true
		for x := from; x <= to; x++ {
			v := earth.At(l, x)
			least = span(min(least.Lo, v.Lo), min(least.Hi, v.Hi))
			most = span(max(most.Lo, v.Lo), max(most.Hi, v.Hi))
		}
		if earth.Least(l, from, to) != least || earth.Most(l, from, to) != most {
			t.Fatal(l, from, to, least, most)
		}
		if earth.Least(l, from-1, to+2).Lo > least.Lo || earth.Most(l, from-1, to+2).Hi < most.Hi {
			t.Fatal("a greater part", l)
		}
		for x := int64(-1); x < 40; x++ {
			a, b := earth.At(l, x), earth.At(m, x)
			above = above && a.Hi >= b.Hi && a.Lo >= b.Lo
		}
		if earth.Above(l, m) && !above || !earth.Above(l, l) {
			t.Fatal(l, m)
		}
		top := api.Line{}
		for _, k := range l.Knots {
			top.Knots = append(top.Knots, api.Knot{At: k.At, V: k.V + r.Int63n(9)})
		}
		if !earth.Above(top, l) || earth.Above(l, m) && !earth.Above(top, m) || earth.Above(l, top) && !slices.Equal(l.Knots, top.Knots) {
			t.Fatal("transitive", l, m, top)
		}
	}
}

func TestP2_11HowRangesGrow(t *testing.T) {
	r := rand.New(rand.NewSource(11))
	for range 100 {
		e, truth := randomEarth(r)
		e.PoreHi, e.FracHi, e.PoreLo, e.FracLo = around(r, truth.Pore, 1, 1), around(r, truth.Frac, 1, 1), truth.Pore, truth.Frac
		for z := int64(1); z <= 400; z++ {
			for _, f := range []func(api.Earth, int64) api.Range{earth.Pore, earth.Frac} {
				a, b := f(e, z-1), f(e, z)
				if b.Hi-a.Hi > e.GHi || b.Lo < a.Lo {
					t.Fatal(e, z, a, b)
				}
			}
		}
	}
}

func TestP1AnyArguments(t *testing.T) {
	wild := []int64{-1 << 63, 1<<63 - 1, -1, 0, 1, 1 << 40}
	for _, x := range wild {
		for _, y := range wild {
			l := line(x, y, y, x)
			earth.CheckLine(l, x, y)
			earth.At(l, y)
			earth.Least(roof(), x, y)
			earth.Most(l, x, y)
			earth.Above(l, roof())
			earth.CheckTruth(api.Truth{Pore: l, Frac: roof()}, x)
			earth.Conflicts(api.Earth{Bottom: x, PoreLo: l, PoreHi: l, FracLo: l, FracHi: l, GLo: y, GHi: x})
			earth.Pore(known(), x)
		}
	}
}
