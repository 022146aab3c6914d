// Package fluid is layer 3: it computes with fluids in an annulus: columns and their pressures, flow and its losses, gas, and cuttings.
package fluid

import (
	"iter"

	"moonpool/api"
)

// CheckHole returns the first error of a hole.
func CheckHole(h api.Hole) api.Errno {
	if len(h.Segs) == 0 {
		return api.ErrShort
	}
	if len(h.Segs) > api.MaxSegs {
		return api.ErrFull
	}
	for _, s := range h.Segs {
		if s.Long < 1 || s.Rise < 0 || s.Rise > s.Long || s.Area < 1 || s.Area > api.MaxArea || s.Gap < 1 || s.Gap > api.MaxGap {
			return api.ErrRange
		}
	}
	rest := int64(api.MaxDepth)
	for _, s := range h.Segs {
		if s.Long > rest {
			return api.ErrLong
		}
		rest -= s.Long
	}
	return api.OK
}

// isSeg reports whether a segment is one of a valid hole.
func isSeg(s api.Seg) bool { return CheckHole(api.Hole{Segs: []api.Seg{s}}) == api.OK }

// part is a segment with the places at its ends.
type part struct {
	seg      api.Seg
	from, to int64
}

// parts yields the segments of a valid hole with their places, from the bottom up.
func parts(h api.Hole) iter.Seq2[int, part] {
	return func(yield func(int, part) bool) {
		from := int64(0)
		for i, s := range h.Segs {
			to := from + s.Long*s.Area
			if !yield(i, part{s, from, to}) {
				return
			}
			from = to
		}
	}
}

// Volume returns the volume of a hole.
func Volume(h api.Hole) int64 {
	if CheckHole(h) != api.OK {
		return 0
	}
	volume := int64(0)
	for _, p := range parts(h) {
		volume = p.to
	}
	return volume
}

// Height returns the height line of a hole.
func Height(h api.Hole) api.Line {
	if CheckHole(h) != api.OK {
		return api.Line{}
	}
	l := api.Line{Knots: []api.Knot{{At: 0, V: 0}}}
	height := int64(0)
	for _, p := range parts(h) {
		height += p.seg.Rise
		l.Knots = append(l.Knots, api.Knot{At: p.to, V: height})
	}
	return l
}

// Where returns the number of the segment in which a place lies.
func Where(h api.Hole, u int64) int {
	if u < 0 || u > Volume(h) || CheckHole(h) != api.OK {
		return -1
	}
	where := -1
	for i, p := range parts(h) {
		if p.from <= u {
			where = i
		}
	}
	// The top of the hole lies in the uppermost segment, too.
	return where
}
