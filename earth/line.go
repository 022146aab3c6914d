package earth

import (
	"moonpool/api"
	"moonpool/exact"
)

// piece is the part of a line between two knots.
type piece struct {
	ends [2]api.Knot
}

// value returns the enclosure of the value at an x between the ends.
func (p piece) value(x int64) api.Range {
	long := p.ends[1].At - p.ends[0].At
	rise := (p.ends[1].V - p.ends[0].V) * (x - p.ends[0].At)
	return api.Range{Lo: p.ends[0].V + exact.Down(rise, long), Hi: p.ends[0].V + exact.Up(rise, long)}
}

// CheckLine returns the first error of a line.
func CheckLine(l api.Line, at, v int64) api.Errno {
	if at < 0 || at > 1<<40 || v < 0 || v > 1<<36 {
		return api.ErrRange
	}
	if len(l.Knots) == 0 {
		return api.ErrShort
	}
	if len(l.Knots) > api.MaxKnots {
		return api.ErrFull
	}
	for i, k := range l.Knots {
		if k.At < 0 || k.At > at || k.V < 0 || k.V > v {
			return api.ErrRange
		}
		if i > 0 && k.At <= l.Knots[i-1].At {
			return api.ErrOrder
		}
	}
	return api.OK
}

// isRight reports whether a line can be computed with: the products in it fit into 64 bits.
func isRight(l api.Line) bool {
	return CheckLine(l, 1<<20, 1<<36) == api.OK || CheckLine(l, 1<<40, 1<<20) == api.OK
}

// valueAt is At for a line that is right.
func valueAt(l api.Line, x int64) api.Range {
	before := l.Knots[0]
	for _, k := range l.Knots {
		if x <= k.At {
			if x <= before.At {
				return api.Range{Lo: before.V, Hi: before.V}
			}
			return piece{[2]api.Knot{before, k}}.value(x)
		}
		before = k
	}
	return api.Range{Lo: before.V, Hi: before.V}
}

// At returns the enclosure of the value of a line.
func At(l api.Line, x int64) api.Range {
	if !isRight(l) {
		return api.Range{}
	}
	return valueAt(l, x)
}

// Least returns the enclosure of the least value of a part of a line.
func Least(l api.Line, from, to int64) api.Range {
	return extreme(l, from, to, func(a, b int64) int64 { return min(a, b) })
}

// Most returns the enclosure of the greatest value of a part of a line.
func Most(l api.Line, from, to int64) api.Range {
	return extreme(l, from, to, func(a, b int64) int64 { return max(a, b) })
}

// extreme returns the enclosure of the value that is picked from all of a part of a line: it is at an end or at a knot.
func extreme(l api.Line, from, to int64, pick func(a, b int64) int64) api.Range {
	if !isRight(l) || from > to {
		return api.Range{}
	}
	best := valueAt(l, from)
	add := func(r api.Range) { best = api.Range{Lo: pick(best.Lo, r.Lo), Hi: pick(best.Hi, r.Hi)} }
	add(valueAt(l, to))
	for _, k := range l.Knots {
		if from < k.At && k.At < to {
			add(api.Range{Lo: k.V, Hi: k.V})
		}
	}
	return best
}

// Above reports whether a line is nowhere less than another one.
func Above(a, b api.Line) bool {
	return isRight(a) && isRight(b) && above(a, b, 0, 1<<40)
}

// above reports whether a is at least b from from to to. It is so if it is so at the ends and at all knots; there one of both values is whole, so that rounding the other one decides it.
func above(a, b api.Line, from, to int64) bool {
	for _, k := range a.Knots {
		if from <= k.At && k.At <= to && k.V < valueAt(b, k.At).Hi {
			return false
		}
	}
	for _, k := range b.Knots {
		if from <= k.At && k.At <= to && valueAt(a, k.At).Lo < k.V {
			return false
		}
	}
	return true
}
