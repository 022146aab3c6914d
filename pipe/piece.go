package pipe

import (
	"iter"

	"moonpool/api"
	"moonpool/exact"
	"moonpool/path"
)

// Fits returns the error of a string or of a path, or that the string is longer than the path.
func Fits(s api.String, p api.Path) api.Errno {
	if e := Check(s); e != api.OK {
		return e
	}
	if e := path.Check(p); e != api.OK {
		return e
	}
	if length(s) > path.Length(p) {
		return api.ErrLong
	}
	return api.OK
}

// pieces yields the pieces of a string that fits into a path, from the bit upwards.
func pieces(s api.String, p api.Path) iter.Seq[api.Piece] {
	return func(yield func(api.Piece) bool) {
		knots := path.Vert(p).Knots
		to := length(s)
		leg := len(p.Legs) - 1
		for knots[leg].At >= to {
			leg--
		}
		for tube, t := range s.Tubes {
			// A tube and a leg end where the deeper one of their upper ends is.
			top := to - t.Count*t.Len
			for to > top {
				end := max(top, knots[leg].At)
				if !yield(api.Piece{Tube: tube, Leg: leg, From: end, To: to}) {
					return
				}
				if end == knots[leg].At {
					leg--
				}
				to = end
			}
		}
	}
}

// Pieces returns the pieces of a string in a path.
func Pieces(s api.String, p api.Path) []api.Piece {
	if Fits(s, p) != api.OK {
		return nil
	}
	var l []api.Piece
	for x := range pieces(s, p) {
		l = append(l, x)
	}
	return l
}

// Side returns the side of a vector, rounded down and up.
func Side(v api.Vec) api.Range {
	const most = 1 << 24
	if !exact.Within(v.X, -most, most) || !exact.Within(v.Y, -most, most) || !exact.Within(v.Z, -most, most) {
		return api.Range{}
	}
	return root(v.X*v.X+v.Y*v.Y, false)
}

// Bend returns a million times the bend of two vectors, rounded down and up.
func Bend(v, w api.Vec) api.Range {
	turn, e := path.Turn(v, w)
	if e != api.OK {
		return api.Range{}
	}
	return root(exact.Scale(2000000000000, turn.N, turn.D))
}

// root returns the root, rounded down and up, of a number that is n, or more than n and less than n + 1.
func root(n int64, more bool) api.Range {
	r := exact.Root(n)
	if r*r == n && !more {
		return api.Range{Lo: r, Hi: r}
	}
	return api.Range{Lo: r, Hi: r + 1}
}
