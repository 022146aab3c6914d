package path

import (
	"slices"

	"moonpool/api"
)

// CheckGoal returns the first error of a goal.
func CheckGoal(g api.Goal) api.Errno {
	if len(g.Dirs) < 2 {
		return api.ErrShort
	}
	if len(g.Dirs) > api.MaxDirs {
		return api.ErrFull
	}
	for i, d := range g.Dirs {
		if e := checkLength(vec(d), api.MinLeg, 4000); e != api.OK {
			return e
		}
		if slices.Contains(g.Dirs[:i], d) {
			return api.ErrExists
		}
	}
	if g.Mult < 1 || g.Mult > api.MaxMult || g.Legs < 1 || g.Legs > 3 || !isTurn(g.Turn) || !isBox(g.Into) {
		return api.ErrRange
	}
	return api.OK
}

func isTurn(p api.Part) bool { return p.D >= 1 && p.D <= 1000 && p.N >= 0 && p.N <= p.D }

func isBox(b api.Box) bool { return b.Lo.X <= b.Hi.X && b.Lo.Y <= b.Hi.Y && b.Lo.Z <= b.Hi.Z }

// mayFollow reports whether a leg may come after another one: it turns by less than a right angle, and by no more than most.
func mayFollow(before, leg vec, most api.Part) bool {
	if before.dot(leg) <= 0 {
		return false
	}
	turn, e := Turn(api.Vec(before), api.Vec(leg))
	return e == api.OK && turn.N*most.D <= most.N*turn.D
}

// Plan returns the best path to a goal.
func Plan(from api.Vec, first api.Vec, g api.Goal) (api.Path, api.Errno) {
	if e := CheckGoal(g); e != api.OK {
		return api.Path{}, e
	}
	if !vec(from).isPlace() {
		return api.Path{}, api.ErrRange
	}
	if checkLength(vec(first), 1, api.MaxLeg) != api.OK {
		return api.Path{}, api.ErrForm
	}
	legs := search(vec(from), vec(first), g)
	if legs == nil {
		return api.Path{}, api.ErrMissing
	}
	return api.Path{From: from, Legs: legs}, api.OK
}

// search returns the legs of the best path to a valid goal, none if there is no path.
func search(from, first vec, g api.Goal) []api.Vec {
	var best, legs []api.Vec
	least := int64(0)
	var grow func(at, before vec, direction int, length int64)
	grow = func(at, before vec, direction int, length int64) {
		// Paths with equally many legs come in lexicographic order, so only a better one replaces the best.
		better := best == nil || length < least || length == least && len(legs) < len(best)
		if len(legs) > 0 && better && at.inBox(vec(g.Into.Lo), vec(g.Into.Hi)) {
			best, least = slices.Clone(legs), length
		}
		if len(legs) == g.Legs {
			return
		}
		for i, d := range g.Dirs {
			if i == direction || !mayFollow(before, vec(d), g.Turn) {
				continue
			}
			n, _ := wholeLength(vec(d))
			for k := int64(1); k <= g.Mult; k++ {
				leg := vec(d).times(k)
				if !at.plus(leg).isPlace() {
					break
				}
				legs = append(legs, api.Vec(leg))
				grow(at.plus(leg), leg, i, length+k*n)
				legs = legs[:len(legs)-1]
			}
		}
	}
	grow(from, first, -1, 0)
	return best
}

// Sidetrack returns a path that leaves another one at a joint, for a goal.
func Sidetrack(p api.Path, i int, g api.Goal) (api.Path, api.Errno) {
	if e := Check(p); e != api.OK {
		return api.Path{}, e
	}
	if i < 1 || i > len(p.Legs) {
		return api.Path{}, api.ErrMissing
	}
	plan, e := Plan(api.Vec(joint(p, i)), p.Legs[i-1], g)
	if e != api.OK {
		return api.Path{}, e
	}
	if i+len(plan.Legs) > api.MaxLegs {
		return api.Path{}, api.ErrLong
	}
	return api.Path{From: p.From, Legs: append(slices.Clone(p.Legs[:i]), plan.Legs...)}, api.OK
}
