package rig

import "moonpool/api"

// maxStates is how many states a rig can have.
const maxStates = 8 * 8 * 8 * 8

// isGoal reports whether each machine is at a place of its span.
func isGoal(goal []api.Span, s []int) bool {
	for i, x := range goal {
		if s[i] < x.Lo || s[i] > x.Hi {
			return false
		}
	}
	return true
}

// CheckGoal returns the error of a rig, or the first one of a goal.
func CheckGoal(r api.Rig, goal []api.Span) api.Errno {
	if e := Check(r); e != api.OK {
		return e
	}
	if len(goal) != len(r.Places) {
		return api.ErrForm
	}
	for i, x := range goal {
		if !isSpan(x.Lo, x.Hi, r.Places[i]) {
			return api.ErrRange
		}
	}
	return api.OK
}

// checkAim returns the first error of a goal with losses.
func checkAim(r api.Rig, goal []api.Span, losses int) api.Errno {
	if e := CheckGoal(r, goal); e != api.OK {
		return e
	}
	if losses < 0 || losses > api.MaxLosses {
		return api.ErrRange
	}
	return api.OK
}

// checkWay returns the first error of a state, a goal and losses.
func checkWay(r api.Rig, s []int, goal []api.Span, losses int) api.Errno {
	if e := CheckState(r, s); e != api.OK {
		return e
	}
	return checkAim(r, goal, losses)
}

// number returns the number of a state: its places are the digits.
func number(r api.Rig, s []int) int {
	n := 0
	for i, places := range r.Places {
		n = n*places + s[i]
	}
	return n
}

// stateOf returns the state with a number.
func stateOf(r api.Rig, n int) []int {
	s := make([]int, len(r.Places))
	for i := len(s) - 1; i >= 0; i-- {
		s[i] = n % r.Places[i]
		n /= r.Places[i]
	}
	return s
}

// end is what may come of a move: by how much the number of the state changes, if so many commands are lost.
type end struct {
	change, lost int
}

// ends returns all that may come of a move, with at most so many losses. A command with the move 0 cannot be lost.
func ends(r api.Rig, m []int, losses int) []end {
	all := []end{{}}
	weight := 1
	for i := len(m) - 1; i >= 0; i-- {
		var more []end
		for _, x := range all {
			more = append(more, end{x.change + m[i]*weight, x.lost})
			if m[i] != 0 && x.lost < losses {
				more = append(more, end{x.change, x.lost + 1})
			}
		}
		all = more
		weight *= r.Places[i]
	}
	return all
}

// option is an allowed move of a state, with what may come of it.
type option struct {
	move []int
	ends []end
}

// field is a rig with a goal: which of its states are safe, what can be done in them, and the least ticks that were found for each number of losses, -1 where none were.
type field struct {
	rig     api.Rig
	states  int
	safe    [maxStates]bool
	options [maxStates][]option
	least   [api.MaxLosses + 1][maxStates]int
}

// works reports whether a move leads to states with lesser ticks than these, whichever commands are lost.
func (f *field) works(n int, x option, losses, ticks int) bool {
	for _, e := range x.ends {
		if e.lost > losses {
			continue
		}
		if rest := f.least[losses-e.lost][n+e.change]; rest < 0 || rest >= ticks {
			return false
		}
	}
	return true
}

// first returns the first move that works, if there is one.
func (f *field) first(n, losses, ticks int) ([]int, bool) {
	for _, x := range f.options[n] {
		if f.works(n, x, losses, ticks) {
			return x.move, true
		}
	}
	return nil, false
}

// layer counts all states that need just so many ticks, and reports whether there are any.
func (f *field) layer(losses, ticks int) bool {
	some := false
	for left := range losses + 1 {
		for n := range f.states {
			if !f.safe[n] || f.least[left][n] >= 0 {
				continue
			}
			if _, ok := f.first(n, left, ticks); ok {
				f.least[left][n], some = ticks, true
			}
		}
	}
	return some
}

// survey returns a valid rig with the states that are safe, and what can be done in them.
func survey(r api.Rig, goal []api.Span, losses int) *field {
	f := &field{rig: r, states: 1}
	for _, places := range r.Places {
		f.states *= places
	}
	var all []option
	for m := range moves(len(r.Places)) {
		all = append(all, option{m, ends(r, m, losses)})
	}
	for n := range f.states {
		s := stateOf(r, n)
		f.safe[n] = ban(r, s, s) < 0
		ticks := -1
		if f.safe[n] && isGoal(goal, s) {
			ticks = 0
		}
		for left := range f.least {
			f.least[left][n] = ticks
		}
		for _, x := range all {
			if ok, _ := allowed(r, s, x.move); ok && f.safe[n] {
				f.options[n] = append(f.options[n], x)
			}
		}
	}
	return f
}

// count finds the least ticks of all states.
func count(r api.Rig, goal []api.Span, losses int) *field {
	f := survey(r, goal, losses)
layers:
	for ticks := 1; ticks <= api.MaxSpell; ticks++ {
		// A layer without states would only be followed by such.
		if !f.layer(losses, ticks) {
			break layers
		}
	}
	return f
}

// Ticks returns the least ticks from a state to a goal, with at most so many losses.
func Ticks(r api.Rig, s []int, goal []api.Span, losses int) (int, api.Errno) {
	if e := checkWay(r, s, goal, losses); e != api.OK {
		return 0, e
	}
	least := count(r, goal, losses).least[losses][number(r, s)]
	if least < 0 {
		return 0, api.ErrLate
	}
	return least, api.OK
}

// Next returns the best move from a state to a goal, with at most so many losses.
func Next(r api.Rig, s []int, goal []api.Span, losses int) ([]int, api.Errno) {
	if e := checkWay(r, s, goal, losses); e != api.OK {
		return nil, e
	}
	f, n := count(r, goal, losses), number(r, s)
	switch least := f.least[losses][n]; {
	case least < 0:
		return nil, api.ErrLate
	case least == 0:
		return make([]int, len(s)), api.OK
	default:
		m, _ := f.first(n, losses, least)
		best := make([]int, len(s))
		copy(best, m)
		return best, api.OK
	}
}

// Ready returns the greatest of the least ticks of all safe states, and how many of these have none.
func Ready(r api.Rig, goal []api.Span, losses int) (worst, stuck int, e api.Errno) {
	if e := checkAim(r, goal, losses); e != api.OK {
		return 0, 0, e
	}
	f := count(r, goal, losses)
	for n := range f.states {
		switch least := f.least[losses][n]; {
		case !f.safe[n]:
		case least < 0:
			stuck++
		default:
			worst = max(worst, least)
		}
	}
	return worst, stuck, api.OK
}
