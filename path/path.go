// Package path is layer 1: it keeps the paths of wells, plans them to targets, and decides whether two of them can come together in spite of all errors of their surveys.
package path

import (
	"iter"

	"moonpool/api"
	"moonpool/exact"
)

// Root returns the whole number whose square is n, if there is one.
func Root(n int64) (int64, bool) {
	if n < 0 || n > 1<<50 {
		return 0, false
	}
	r := exact.Root(n)
	if r*r != n {
		return 0, false
	}
	return r, true
}

// wholeLength returns the length of a vector, if it is whole.
func wholeLength(v vec) (int64, bool) {
	if !v.within(-1<<24, 1<<24) {
		return 0, false
	}
	return Root(v.dot(v))
}

// Check returns the first error of a path.
func Check(p api.Path) api.Errno {
	if len(p.Legs) > api.MaxLegs {
		return api.ErrLong
	}
	at := vec(p.From)
	if !at.isPlace() {
		return api.ErrRange
	}
	for i, leg := range p.Legs {
		if e := checkLength(vec(leg), api.MinLeg, api.MaxLeg); e != api.OK {
			return e
		}
		if i > 0 && vec(p.Legs[i-1]).dot(vec(leg)) <= 0 {
			return api.ErrClash
		}
		at = at.plus(vec(leg))
		if !at.isPlace() {
			return api.ErrRange
		}
	}
	return api.OK
}

// checkLength returns the error of a vector that should have a whole length from least to most.
func checkLength(v vec, least, most int64) api.Errno {
	n, ok := wholeLength(v)
	if !ok {
		return api.ErrForm
	}
	if n < least || n > most {
		return api.ErrRange
	}
	return api.OK
}

// places yields the depth and the place of each joint of a valid path.
func places(p api.Path) iter.Seq2[int64, vec] {
	return func(yield func(int64, vec) bool) {
		depth, at := int64(0), vec(p.From)
		if !yield(depth, at) {
			return
		}
		for _, leg := range p.Legs {
			n, _ := wholeLength(vec(leg))
			depth, at = depth+n, at.plus(vec(leg))
			if !yield(depth, at) {
				return
			}
		}
	}
}

// Length returns the length of a path.
func Length(p api.Path) int64 {
	if Check(p) != api.OK {
		return 0
	}
	length := int64(0)
	for depth := range places(p) {
		length = depth
	}
	return length
}

// Joints returns the joints of a path.
func Joints(p api.Path) []api.Vec {
	if Check(p) != api.OK {
		return nil
	}
	var l []api.Vec
	for _, at := range places(p) {
		l = append(l, api.Vec(at))
	}
	return l
}

// At returns the place at a depth.
func At(p api.Path, d int64) (api.Vec, bool) {
	if Check(p) != api.OK || d < 0 || d > Length(p) {
		return api.Vec{}, false
	}
	leg, start, begin := -1, int64(0), vec(p.From)
	for depth, at := range places(p) {
		if depth > d || leg+1 == len(p.Legs) {
			break
		}
		leg, start, begin = leg+1, depth, at
	}
	if leg < 0 {
		return p.From, true
	}
	v := vec(p.Legs[leg])
	n, _ := wholeLength(v)
	return api.Vec(begin.plus(v.share(d-start, n))), true
}

// Vert returns the line of the vertical depths of the joints.
func Vert(p api.Path) api.Line {
	if Check(p) != api.OK {
		return api.Line{}
	}
	var l api.Line
	for depth, at := range places(p) {
		l.Knots = append(l.Knots, api.Knot{At: depth, V: at.Z})
	}
	return l
}

// Turn returns the turn of two vectors.
func Turn(v, w api.Vec) (api.Part, api.Errno) {
	n, ok := wholeLength(vec(v))
	m, good := wholeLength(vec(w))
	if !ok || !good || min(n, m) < 1 || max(n, m) > api.MaxLeg {
		return api.Part{}, api.ErrForm
	}
	return lowest(n*m-vec(v).dot(vec(w)), n*m), api.OK
}

// lowest returns n / d in lowest terms.
func lowest(n, d int64) api.Part {
	a, b := n, d
	for b != 0 {
		a, b = b, a%b
	}
	return api.Part{N: n / a, D: d / a}
}

// Steepest returns the greatest turn of a joint between two legs.
func Steepest(p api.Path) api.Part {
	if Check(p) != api.OK {
		return api.Part{}
	}
	most := api.Part{N: 0, D: 1}
	for i := 1; i < len(p.Legs); i++ {
		turn, _ := Turn(p.Legs[i-1], p.Legs[i])
		if exact.Less(most.N, turn.D, turn.N, most.D) {
			most = turn
		}
	}
	return most
}
