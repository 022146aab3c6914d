package house

import (
	"slices"

	"moonpool/api"
)

// CheckBlow returns the first error of a blow-out.
func CheckBlow(b api.Blow) api.Errno {
	if len(b.Lost) == 0 {
		return api.ErrShort
	}
	if len(b.Lost) > api.MaxStates {
		return api.ErrFull
	}
	if len(b.Moves) != len(b.Lost) {
		return api.ErrForm
	}
	for _, moves := range b.Moves {
		if len(moves) == 0 {
			return api.ErrShort
		}
		if len(moves) > api.MaxActions {
			return api.ErrFull
		}
		if slices.ContainsFunc(moves, func(n int) bool { return !isState(b, n) }) {
			return api.ErrRange
		}
	}
	return api.OK
}

// isState reports whether a blow-out has a state.
func isState(b api.Blow, n int) bool { return n >= 0 && n < len(b.Lost) }

// Safe returns for each state whether it is safe.
func Safe(b api.Blow) []bool {
	if CheckBlow(b) != api.OK {
		return nil
	}
	safe := make([]bool, len(b.Lost))
	for n, lost := range b.Lost {
		safe[n] = !lost
	}
	isSafe := func(n int) bool { return safe[n] }
anew:
	for {
		for n := range safe {
			if safe[n] && !slices.ContainsFunc(b.Moves[n], isSafe) {
				safe[n] = false
				continue anew
			}
		}
		return safe
	}
}

// Chance returns the place of the last chance in a run.
func Chance(b api.Blow, run []int) (int, bool) {
	if CheckBlow(b) != api.OK || len(run) > api.MaxRun || slices.ContainsFunc(run, func(n int) bool { return !isState(b, n) }) {
		return 0, false
	}
	safe := Safe(b)
	for i := len(run) - 1; i >= 0; i-- {
		if safe[run[i]] {
			return i, true
		}
	}
	return 0, false
}

// Way returns the states through which a safe state can be left for ever.
func Way(b api.Blow, state int) []int {
	safe := Safe(b)
	if state < 0 || state >= len(safe) || !safe[state] {
		return nil
	}
	isSafe := func(n int) bool { return safe[n] }
	var way []int
	for !slices.Contains(way, state) {
		way = append(way, state)
		moves := b.Moves[state]
		state = moves[slices.IndexFunc(moves, isSafe)]
	}
	return append(way, state)
}

// Wild returns the wild well with a limit, a rate and a time.
func Wild(limit, rate, time int) (api.Blow, api.Errno) {
	if limit < 1 || limit > 15 || rate < 1 || rate > 15 || time < 0 || time > 3 {
		return api.Blow{}, api.ErrRange
	}
	if (limit+1)*(time+1) > api.MaxStates {
		return api.Blow{}, api.ErrFull
	}
	var b api.Blow
	for gas := range limit + 1 {
		for closed := range time + 1 {
			state := gas*(time+1) + closed
			next := min(limit, gas+rate)*(time+1) + closed
			moves := []int{next, next + 1}
			if closed == time {
				moves = []int{state, state}
			}
			b.Lost = append(b.Lost, gas == limit)
			b.Moves = append(b.Moves, moves)
		}
	}
	return b, api.OK
}
