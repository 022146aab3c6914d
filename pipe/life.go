package pipe

import (
	"slices"

	"moonpool/api"
	"moonpool/exact"
	"moonpool/path"
)

// CheckTable returns the first error of a table of fatigue.
func CheckTable(l []api.Row) api.Errno {
	if len(l) == 0 {
		return api.ErrShort
	}
	if len(l) > api.MaxRows {
		return api.ErrFull
	}
	for i, r := range l {
		if !exact.Within(r.Turn.D, 1, 1000) || !exact.Within(r.Turn.N, 0, r.Turn.D) || !exact.Within(r.Turns, 1, api.MaxTurns) {
			return api.ErrRange
		}
		if i > 0 && (!less(l[i-1].Turn, r.Turn) || l[i-1].Turns <= r.Turns) {
			return api.ErrOrder
		}
	}
	return api.OK
}

// less reports whether a turn is less than another one, if one of them is of a table.
func less(a, b api.Part) bool { return a.N*b.D < b.N*a.D }

// allowed returns how many turns a table allows in a bend.
func allowed(l []api.Row, turn api.Part) int64 {
	for _, r := range l {
		if !less(r.Turn, turn) {
			return r.Turns
		}
	}
	return 1
}

// Turn returns a string that was turned in a path.
func Turn(s api.String, p api.Path, l []api.Row, n int64) (api.String, api.Errno) {
	if e := Fits(s, p); e != api.OK {
		return api.String{}, e
	}
	if e := CheckTable(l); e != api.OK {
		return api.String{}, e
	}
	if !exact.Within(n, 0, 1<<20) {
		return api.String{}, api.ErrRange
	}
	used := slices.Clone(s.Tubes)
	below := api.Piece{Leg: -1}
	for x := range pieces(s, p) {
		if below.Leg == x.Leg+1 {
			// Legs in one direction have no bend between them: a straight path uses nothing.
			turn, _ := path.Turn(p.Legs[x.Leg], p.Legs[below.Leg])
			if turn.N > 0 {
				used[below.Tube].Used += exact.Up(n*api.Life, allowed(l, turn))
			}
		}
		below = x
	}
	for _, t := range used {
		if t.Used > 1<<40 {
			return api.String{}, api.ErrFull
		}
	}
	return api.String{Tubes: used}, api.OK
}
