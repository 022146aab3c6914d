package earth_test

import (
	"slices"
	"testing"

	"moonpool/api"
	"moonpool/earth"
)

// broken is an earth of which most values are broken: lines go through thirds.
func broken(reports ...api.Report) api.Earth {
	return api.Earth{Bottom: 6, PoreLo: line(0, 0, 3, 10), PoreHi: line(0, 0, 3, 11), FracLo: line(0, 6, 3, 17), FracHi: line(0, 7, 3, 18), GHi: 40000, Reports: reports}
}

func TestP2_3BrokenValues(t *testing.T) {
	// At 1 the lines have 3 1/3, 3 2/3, 9 2/3 and 10 2/3.
	if p, f := earth.Pore(broken(), 1), earth.Frac(broken(), 1); p != span(3, 4) || f != span(9, 11) {
		t.Error(p, f)
	}
	thirds := api.Truth{Pore: line(0, 0, 3, 11, 6, 11), Frac: line(0, 7, 3, 18, 6, 18)}
	if !earth.Fits(broken(), api.Truth{Pore: line(0, 0, 3, 10, 6, 10), Frac: line(0, 7, 3, 18, 6, 18)}) || !earth.Fits(broken(), thirds) {
		t.Error("it fits")
	}
	for i, c := range []struct {
		r    api.Report
		want bool
	}{
		{report(1, 1, 3), true}, {report(1, 1, 4), false}, {report(2, 1, 3), false}, {report(2, 1, 4), true},
		{report(3, 1, 10), true}, {report(3, 1, 11), false}, {report(4, 1, 10), false}, {report(4, 1, 11), true},
	} {
		if got := earth.Fits(broken(c.r), thirds); got != c.want {
			t.Error(i, got)
		}
	}
	for i, truth := range []api.Truth{
		{Pore: line(0, 1, 6, 11), Frac: thirds.Frac}, {Pore: line(0, 0, 3, 11, 6, 12), Frac: thirds.Frac}, {Pore: line(0, 0, 3, 9, 6, 10), Frac: thirds.Frac}, {Pore: thirds.Pore, Frac: line(0, 5, 3, 18, 6, 18)}, {Pore: thirds.Pore, Frac: line(0, 7, 3, 18, 6, 19)},
		// They leave the bounds between their own knots.
		{Pore: line(0, 0, 6, 11), Frac: thirds.Frac}, {Pore: thirds.Pore, Frac: line(0, 7, 6, 18)},
	} {
		if earth.Fits(broken(), truth) {
			t.Error(i, "it does not fit")
		}
	}
}

func TestP2_3PointsAtTheBottom(t *testing.T) {
	e := known()
	e.GLo = 13000
	// From the knot at the bottom: 1200000000 - 13000 * 50000.
	if p := earth.Pore(e, 50000); p.Hi != 550000000 {
		t.Error(p)
	}
	// A knot below the bottom is no point, and no depth.
	e.Bottom = 99999
	if p := earth.Pore(e, 50000); p.Hi != 600000000 {
		t.Error(p)
	}
	e = known()
	e.Bottom, e.PoreLo = 70, line(0, 0, 70, 7, 100, 10)
	if d := earth.Depths(e); !slices.Equal(d, []int64{0, 70}) {
		t.Error(d)
	}
}

func TestP2_3BordersOfEarths(t *testing.T) {
	full := known(slices.Repeat([]api.Report{report(1, 0, 0)}, 24)...)
	least := known()
	least.Bottom, least.GLo, least.GHi = 1, 40000, 40000
	deep := known(report(4, 1<<20, 1<<36))
	deep.Bottom, deep.GLo, deep.GHi = 1<<20, 0, 0
	for i, e := range []api.Earth{full, least, deep} {
		if err := earth.Check(e); err != api.OK {
			t.Error(i, err)
		}
	}
	full.Reports = append(full.Reports, report(1, 0, 0))
	if err := earth.Check(full); err != api.ErrFull {
		t.Error(err)
	}
	for i, r := range []api.Report{report(1, -1, 0), report(1, 0, -1), report(1, 100001, 0), report(1, 0, 1<<36+1)} {
		if err := earth.Check(known(r)); err != api.ErrRange {
			t.Error(i, err)
		}
	}
	if e := earth.CheckLine(line(0, 0), 0, 0); e != api.OK {
		t.Error(e)
	}
	if e := earth.CheckLine(line(0, 0), 1<<40, 1<<36); e != api.OK {
		t.Error(e)
	}
}

func TestP2_2BordersOfParts(t *testing.T) {
	// The one knot where the line is less lies far out.
	low, high := line(0, 5, 1<<40, 4), line(0, 5)
	if earth.Above(low, high) || !earth.Above(high, low) {
		t.Error("at the last knot")
	}
	if earth.Above(line(3, 1, 9, 7), line(3, 2, 9, 7)) || earth.Above(line(0, 1, 9, 7), line(0, 1, 9, 8)) {
		t.Error("at the knots")
	}
	// Between knots: 3 1/3 is not at least 4, and 3 2/3 is at least 3.
	if earth.Above(line(0, 0, 3, 10), line(0, 0, 1, 4, 3, 4)) || !earth.Above(line(0, 0, 3, 11), line(0, 0, 1, 3, 3, 3)) || earth.Above(line(0, 0, 1, 3, 3, 10), line(0, 0, 3, 10)) || !earth.Above(line(0, 0, 1, 4, 3, 10), line(0, 0, 3, 10)) {
		t.Error("at broken values")
	}
}
