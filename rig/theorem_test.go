package rig_test

import (
	"math/rand"
	"slices"
	"testing"

	"moonpool/api"
	"moonpool/pipe"
	"moonpool/rig"
)

// randomRig makes a valid rig with at most so many machines and places.
func randomRig(x *rand.Rand, machines, places int) api.Rig {
	var r api.Rig
	for range 2 + x.Intn(machines-1) {
		r.Places = append(r.Places, 2+x.Intn(places-1))
	}
	part := func(n int) (int, int) {
		lo := x.Intn(r.Places[n])
		return lo, lo + x.Intn(r.Places[n]-lo)
	}
	for range x.Intn(4) {
		b := api.Ban{A: x.Intn(len(r.Places) - 1)}
		b.B = b.A + 1 + x.Intn(len(r.Places)-b.A-1)
		b.ALo, b.AHi = part(b.A)
		b.BLo, b.BHi = part(b.B)
		r.Bans = append(r.Bans, b)
	}
	return r
}

// states are all safe states of a rig.
func states(r api.Rig) [][]int {
	all := [][]int{nil}
	for _, n := range r.Places {
		var longer [][]int
		for _, s := range all {
			for p := range n {
				longer = append(longer, append(slices.Clone(s), p))
			}
		}
		all = longer
	}
	return slices.DeleteFunc(all, func(s []int) bool { return rig.CheckState(r, s) != api.OK })
}

func randomGoal(x *rand.Rand, r api.Rig) []api.Span {
	var goal []api.Span
	for _, n := range r.Places {
		lo := x.Intn(n)
		goal = append(goal, api.Span{Lo: lo, Hi: lo + x.Intn(min(2, n-lo))})
	}
	return goal
}

// subsets are all subsets of the machines that a move moves, with at most so many of them.
func subsets(m []int, most int) [][]int {
	all := [][]int{nil}
	for i, d := range m {
		if d == 0 {
			continue
		}
		for _, s := range all {
			if len(s) < most {
				all = append(all, append(slices.Clone(s), i))
			}
		}
	}
	return all
}

func TestP8_8NoCollision(t *testing.T) {
	x := rand.New(rand.NewSource(88))
	for range 60 {
		r := randomRig(x, 4, 4)
		for _, s := range states(r) {
			for _, m := range rig.Moves(r, s) {
				next, _ := rig.Step(r, s, m, nil)
				for _, b := range r.Bans {
					for _, a := range is(s[b.A], next[b.A]) {
						for _, c := range is(s[b.B], next[b.B]) {
							if a >= b.ALo && a <= b.AHi && c >= b.BLo && c <= b.BHi {
								t.Fatal(r, s, m, b)
							}
						}
					}
				}
				for _, lost := range subsets(m, 4) {
					if end, e := rig.Step(r, s, m, lost); e != api.OK || rig.CheckState(r, end) != api.OK {
						t.Fatal(r, s, m, lost, end, e)
					}
				}
			}
		}
	}
}

func TestP8_9Moves(t *testing.T) {
	x := rand.New(rand.NewSource(89))
	for range 60 {
		r := randomRig(x, 4, 4)
		for _, s := range states(r) {
			if ok, n := rig.Allowed(r, s, make([]int, len(s))); !ok || n != -1 {
				t.Fatal("the move 0", r, s)
			}
			for _, m := range rig.Moves(r, s) {
				back := slices.Clone(m)
				for i := range m {
					back[i] = -m[i]
				}
				next, _ := rig.Step(r, s, m, nil)
				if ok, _ := rig.Allowed(r, next, back); !ok {
					t.Fatal("backwards", r, s, m)
				}
				for _, still := range subsets(m, 4) {
					fewer := slices.Clone(m)
					for _, i := range still {
						fewer[i] = 0
					}
					if ok, _ := rig.Allowed(r, s, fewer); !ok {
						t.Fatal("fewer machines", r, s, m, fewer)
					}
				}
			}
		}
	}
}

// slow finds the least ticks as they are defined, by recursion over all moves and losses.
func slow(r api.Rig, s []int, goal []api.Span, losses, most int, known map[[7]int]bool) bool {
	key := [7]int{losses, most, len(s)}
	in := true
	for i, p := range s {
		key[3+i] = p
		in = in && goal[i].Lo <= p && p <= goal[i].Hi
	}
	if in {
		return true
	}
	if most == 0 {
		return false
	}
	if ok, has := known[key]; has {
		return ok
	}
	good := slices.ContainsFunc(rig.Moves(r, s), func(m []int) bool {
		return !slices.ContainsFunc(subsets(m, losses), func(lost []int) bool {
			next, _ := rig.Step(r, s, m, lost)
			return !slow(r, next, goal, losses-len(lost), most-1, known)
		})
	})
	known[key] = good
	return good
}

func TestP8_10LeastTicks(t *testing.T) {
	x := rand.New(rand.NewSource(810))
	for range 25 {
		r := randomRig(x, 3, 4)
		goal := randomGoal(x, r)
		known := map[[7]int]bool{}
		for losses := range 3 {
			worst, stuck := 0, 0
			for _, s := range states(r) {
				n, e := rig.Ticks(r, s, goal, losses)
				if e == api.ErrLate {
					stuck++
					if slow(r, s, goal, losses, 12, known) {
						t.Fatal("there is a way", r, s, goal, losses)
					}
					continue
				}
				worst = max(worst, n)
				if e != api.OK || !slow(r, s, goal, losses, n, known) || n > 0 && slow(r, s, goal, losses, n-1, known) {
					t.Fatal(r, s, goal, losses, n, e)
				}
				checkNext(t, r, s, goal, losses, n)
			}
			if w, k, e := rig.Ready(r, goal, losses); w != worst || k != stuck || e != api.OK {
				t.Fatal("P8.14", w, k, e, worst, stuck)
			}
		}
	}
}

// checkNext looks whether the best move is the first one that keeps the ticks, whichever commands are lost.
func checkNext(t *testing.T, r api.Rig, s []int, goal []api.Span, losses, n int) {
	best, e := rig.Next(r, s, goal, losses)
	if e != api.OK {
		t.Fatal(e)
	}
	if n == 0 {
		if slices.ContainsFunc(best, func(d int) bool { return d != 0 }) {
			t.Fatal("in the goal", best)
		}
		return
	}
	for _, m := range rig.Moves(r, s) {
		good := true
		for _, lost := range subsets(m, losses) {
			next, _ := rig.Step(r, s, m, lost)
			rest, e := rig.Ticks(r, next, goal, losses-len(lost))
			good = good && e == api.OK && rest <= n-1
		}
		if good || slices.Equal(m, best) {
			if !good || !slices.Equal(m, best) {
				t.Fatal("the first best move", r, s, goal, losses, m, best)
			}
			return
		}
	}
	t.Fatal("no move is best")
}

func TestP8_11Less(t *testing.T) {
	x := rand.New(rand.NewSource(811))
	for range 60 {
		r := randomRig(x, 3, 5)
		goal := randomGoal(x, r)
		wide := slices.Clone(goal)
		wide[0] = api.Span{Lo: 0, Hi: r.Places[0] - 1}
		free := api.Rig{Places: r.Places}
		if len(r.Bans) > 0 {
			free.Bans = r.Bans[1:]
		}
		for _, s := range states(r) {
			n, e := rig.Ticks(r, s, goal, 1)
			if e != api.OK {
				continue
			}
			for i, c := range []struct {
				r      api.Rig
				goal   []api.Span
				losses int
			}{{r, goal, 0}, {r, wide, 1}, {free, goal, 1}} {
				if m, e := rig.Ticks(c.r, s, c.goal, c.losses); e != api.OK || m > n {
					t.Fatal(i, r, s, goal, m, n)
				}
			}
		}
	}
}

func TestP8_12Merge(t *testing.T) {
	x := rand.New(rand.NewSource(812))
	for range 1500 {
		r := randomRig(x, 4, 4)
		all := states(r)
		if len(all) == 0 {
			continue
		}
		s := all[x.Intn(len(all))]
		var l []api.Request
		for range 1 + x.Intn(6) {
			l = append(l, api.Request{Machine: x.Intn(len(s)), Move: x.Intn(3) - 1, Rank: x.Intn(4)})
		}
		m, taken, e := rig.Merge(r, s, l)
		if ok, _ := rig.Allowed(r, s, m); e != api.OK || !ok || !slices.IsSorted(taken) {
			t.Fatal(r, s, l, m, taken)
		}
		first := 0
		for i := range l {
			if l[i].Rank < l[first].Rank {
				first = i
			}
		}
		alone := make([]int, len(s))
		alone[l[first].Machine] = l[first].Move
		if ok, _ := rig.Allowed(r, s, alone); ok != slices.Contains(taken, first) {
			t.Fatal("the first request", r, s, l, taken)
		}
		has := map[int]bool{}
		for _, i := range taken {
			if has[l[i].Machine] || m[l[i].Machine] != l[i].Move {
				t.Fatal("what is taken", l, m, taken)
			}
			has[l[i].Machine] = true
		}
		for i, q := range l {
			if more := slices.Clone(m); !slices.Contains(taken, i) && !has[q.Machine] {
				more[q.Machine] = q.Move
				if ok, _ := rig.Allowed(r, s, more); ok {
					t.Fatal("it could be added", r, s, l, m, taken)
				}
			}
		}
	}
}

func TestP8_13Shearing(t *testing.T) {
	x := rand.New(rand.NewSource(813))
	for range 200 {
		ram := api.Ram{Faces: x.Int63n(4000), Step: 1 + x.Int63n(300), Near: x.Int63n(101)}
		s := stand(1+x.Int63n(9), 100+x.Int63n(400))
		r := api.Rig{Places: []int{2 + x.Intn(7), 2 + x.Intn(7)}}
		hoist := x.Intn(2)
		closed := api.Span{Lo: x.Intn(r.Places[1-hoist])}
		closed.Hi = r.Places[1-hoist] - 1
		bans, e := rig.Shear(ram, s, hoist, r.Places[hoist], 1-hoist, closed)
		r.Bans = bans
		if e != api.OK || rig.Check(r) != api.OK {
			t.Fatal(r, e)
		}
		for h := range r.Places[hoist] {
			for p := range r.Places[1-hoist] {
				state := is(h, p)
				if hoist == 1 {
					state = is(p, h)
				}
				faces := ram.Faces - int64(h)*ram.Step
				near := p >= closed.Lo && pipe.Near(s, faces-ram.Near, faces+ram.Near)
				if near != (rig.CheckState(r, state) == api.ErrClash) {
					t.Fatal(ram, s, r, state)
				}
			}
		}
	}
}

func TestR4NothingIsShared(t *testing.T) {
	s, m := is(0, 0), is(1, 0)
	next, _ := rig.Step(r(), s, m, nil)
	_, last, _ := rig.Follow(r(), s, nil)
	next[0], last[0] = 7, 7
	if s[0] != 0 {
		t.Error(s)
	}
	best, _ := rig.Next(r(), is(0, 2), aim(), 0)
	best[1] = 9
	if again, _ := rig.Next(r(), is(0, 2), aim(), 0); again[1] != -1 {
		t.Error(again)
	}
}

func TestP1TheGreatestRig(t *testing.T) {
	big := api.Rig{Places: is(8, 8, 8, 8)}
	goal := []api.Span{{Lo: 7, Hi: 7}, {Lo: 7, Hi: 7}, {Lo: 7, Hi: 7}, {Lo: 7, Hi: 7}}
	if w, s, e := rig.Ready(big, goal, 2); w != 9 || s != 0 || e != api.OK {
		t.Error(w, s, e)
	}
	// Machine 1 has to pass a place while machine 0 makes way, and so on.
	for i := range 8 {
		big.Bans = append(big.Bans, api.Ban{A: 0, ALo: i, AHi: i, B: 1, BLo: (i + 3) % 8, BHi: (i + 3) % 8}, api.Ban{A: 1, ALo: i, AHi: i, B: 2, BLo: (i + 5) % 8, BHi: (i + 5) % 8})
	}
	if _, _, e := rig.Ready(big, goal, 2); e != api.OK {
		t.Error(e)
	}
}

func TestP1AnyArguments(t *testing.T) {
	wild := is(-1<<63, 1<<63-1, -1, 0, 1, 7)
	for _, x := range wild {
		for _, y := range wild {
			q := api.Rig{Places: is(x, y), Bans: []api.Ban{{A: x, ALo: y, AHi: x, B: y, BLo: x, BHi: y}}}
			rig.Check(q)
			q.Places = is(3, 3)
			rig.CheckState(q, is(0, 0))
			rig.Allowed(r(), is(x, y), is(y, x))
			rig.Allowed(r(), is(0, 0), is(y, x))
			rig.Step(r(), is(0, 0), is(0, 0), is(x, y))
			rig.Follow(r(), is(0, 0), [][]int{{x, y}})
			rig.Merge(r(), is(0, 0), []api.Request{{Machine: x, Move: y, Rank: x}, {Machine: 0, Move: x, Rank: y}})
			rig.Ticks(r(), is(0, 0), []api.Span{{Lo: x, Hi: y}, {Lo: y, Hi: x}}, x)
			rig.Next(r(), is(0, 0), aim(), y)
			rig.Shear(api.Ram{Faces: int64(x), Step: int64(y), Near: int64(x)}, stand(4, 1000), x, y, x, api.Span{Lo: x, Hi: y})
			rig.Shear(api.Ram{Faces: 5, Step: 5, Near: 5}, stand(4, 1000), 0, y, x, api.Span{Lo: x, Hi: y})
		}
	}
}
