package rig_test

import (
	"slices"
	"testing"

	"moonpool/api"
	"moonpool/rig"
)

// r is the rig R of the chapter's examples, and aim its goal.
func r() api.Rig {
	return api.Rig{Places: []int{3, 3}, Bans: []api.Ban{{A: 0, ALo: 1, AHi: 1, B: 1, BLo: 1, BHi: 2}}}
}

func aim() []api.Span { return []api.Span{{Lo: 2, Hi: 2}, {Lo: 0, Hi: 0}} }

func is(l ...int) []int { return l }

func TestP8_1Check(t *testing.T) {
	if e := rig.Check(r()); e != api.OK {
		t.Error(e)
	}
	for i, c := range []struct {
		change func(*api.Rig)
		want   api.Errno
	}{
		{func(r *api.Rig) { r.Places = is(99) }, api.ErrShort}, {func(r *api.Rig) { r.Places = is(1, 2, 3, 4, 5) }, api.ErrFull}, {func(r *api.Rig) { r.Places[1] = 1; r.Bans = make([]api.Ban, 25) }, api.ErrRange}, {func(r *api.Rig) { r.Places[0] = 9 }, api.ErrRange}, {func(r *api.Rig) { r.Places = is(8, 8, 2, 8) }, api.OK},
		{func(r *api.Rig) { r.Bans = make([]api.Ban, 25) }, api.ErrFull}, {func(r *api.Rig) { r.Bans = slices.Repeat(r.Bans, 24) }, api.OK}, {func(r *api.Rig) { r.Bans = nil }, api.OK},
		{func(r *api.Rig) { r.Bans[0].A = 1; r.Bans[0].ALo = -1 }, api.ErrOrder}, {func(r *api.Rig) { r.Bans[0].A = -1 }, api.ErrOrder}, {func(r *api.Rig) { r.Bans[0].B = 2 }, api.ErrOrder},
		{func(r *api.Rig) { r.Bans[0].ALo = -1 }, api.ErrRange}, {func(r *api.Rig) { r.Bans[0].ALo = 2 }, api.ErrRange}, {func(r *api.Rig) { r.Bans[0].AHi = 3 }, api.ErrRange}, {func(r *api.Rig) { r.Bans[0].BLo = -1 }, api.ErrRange}, {func(r *api.Rig) { r.Bans[0].BLo = 3 }, api.ErrRange}, {func(r *api.Rig) { r.Bans[0].BHi = 3 }, api.ErrRange},
		{func(r *api.Rig) {
			r.Bans = append(r.Bans, r.Bans[0], api.Ban{A: 1, B: 1})
			r.Bans[1].BHi = 9
		}, api.ErrRange},
	} {
		x := r()
		c.change(&x)
		if e := rig.Check(x); e != c.want {
			t.Error(i, e, c.want)
		}
		if c.want == api.OK {
			continue
		}
		_, _, a := rig.Merge(x, nil, make([]api.Request, 13))
		_, b := rig.Step(x, nil, nil, nil)
		_, _, d := rig.Follow(x, nil, nil)
		_, f := rig.Ticks(x, nil, nil, 9)
		_, g := rig.Next(x, nil, nil, 9)
		_, _, h := rig.Ready(x, nil, 9)
		if e := rig.CheckState(x, nil); e != c.want || a != e || b != e || d != e || f != e || g != e || h != e || rig.CheckGoal(x, nil) != e {
			t.Error(i, e)
		}
		if ok, n := rig.Allowed(x, is(0, 0), is(0, 0)); ok || n != -1 || rig.Moves(x, is(0, 0)) != nil || rig.Banned(x, is(0, 0)) != -1 {
			t.Error(i, "a rig that is not valid")
		}
	}
}

func TestP8_1State(t *testing.T) {
	for i, c := range []struct {
		s      []int
		want   api.Errno
		banned int
	}{{is(1, 2), api.ErrClash, 0}, {is(0, 2), api.OK, -1}, {is(1, 0), api.OK, -1}, {is(1, 1), api.ErrClash, 0}, {is(1), api.ErrForm, -1}, {is(1, 2, 0), api.ErrForm, -1}, {is(1, 3), api.ErrRange, -1}, {is(-1, 1), api.ErrRange, -1}, {nil, api.ErrForm, -1}} {
		if e := rig.CheckState(r(), c.s); e != c.want {
			t.Error(i, e)
		}
		if n := rig.Banned(r(), c.s); n != c.banned {
			t.Error(i, n)
		}
	}
	two := r()
	two.Bans = append([]api.Ban{{A: 0, B: 1, ALo: 2, AHi: 2, BLo: 0, BHi: 2}}, two.Bans...)
	if rig.Banned(two, is(1, 2)) != 1 || rig.Banned(two, is(2, 2)) != 0 {
		t.Error("the number of the ban")
	}
}

func TestP8_2Allowed(t *testing.T) {
	for i, c := range []struct {
		s, m []int
		ok   bool
		ban  int
	}{
		{is(0, 2), is(1, 0), false, 0}, {is(0, 1), is(1, -1), false, 0}, {is(0, 0), is(1, 1), false, 0}, {is(0, 0), is(1, 0), true, -1},
		{is(0, 0), is(-1, 0), false, -1}, {is(0, 0), is(-1, 1), false, -1}, {is(0, 2), is(1, 1), false, -1}, {is(1, 2), is(0, 0), false, -1}, {is(0, 0), is(2, 0), false, -1}, {is(0, 0), is(0), false, -1}, {is(0), is(0, 0), false, -1}, {is(0, 0), nil, false, -1}, {is(1, 0), is(0, 1), false, 0}, {is(0, 2), is(0, 0), true, -1},
	} {
		if ok, n := rig.Allowed(r(), c.s, c.m); ok != c.ok || n != c.ban {
			t.Error(i, ok, n)
		}
	}
	equal := func(a, b [][]int) bool {
		return slices.EqualFunc(a, b, func(x, y []int) bool { return slices.Equal(x, y) })
	}
	if l := rig.Moves(r(), is(0, 0)); !equal(l, [][]int{{0, 0}, {0, 1}, {1, 0}}) {
		t.Error(l)
	}
	if l := rig.Moves(r(), is(2, 1)); !equal(l, [][]int{{0, -1}, {0, 0}, {0, 1}}) {
		t.Error(l)
	}
	if l := rig.Moves(r(), is(1, 0)); !equal(l, [][]int{{-1, 0}, {0, 0}, {1, 0}}) {
		t.Error(l)
	}
	if rig.Moves(r(), is(1, 1)) != nil || rig.Moves(r(), is(0)) != nil {
		t.Error("moves of a state that is not safe")
	}
}

func TestP8_3StepAndFollow(t *testing.T) {
	for i, c := range []struct {
		s, m, lost, want []int
		e                api.Errno
	}{
		{is(0, 0), is(1, 0), is(0), is(0, 0), api.OK}, {is(0, 0), is(1, 0), nil, is(1, 0), api.OK}, {is(0, 0), is(1, 0), is(1, 1), is(1, 0), api.OK}, {is(0, 0), is(1, 0), is(1, 0, 0), is(0, 0), api.OK},
		{is(1, 1), is(5), is(9), nil, api.ErrClash}, {is(0, 0), is(5, 0), is(9), nil, api.ErrForm}, {is(0, 0), is(0), is(9), nil, api.ErrForm}, {is(0, 0), is(1, 1), is(9), nil, api.ErrClash}, {is(0, 0), is(-1, 0), is(9), nil, api.ErrClash}, {is(0, 0), is(1, 0), is(2), nil, api.ErrMissing}, {is(0, 0), is(1, 0), is(0, -1), nil, api.ErrMissing},
	} {
		if s, e := rig.Step(r(), c.s, c.m, c.lost); e != c.e || !slices.Equal(s, c.want) {
			t.Error(i, s, e)
		}
	}
	for i, c := range []struct {
		s    []int
		plan [][]int
		n    int
		last []int
		e    api.Errno
	}{
		{is(0, 0), nil, -1, is(0, 0), api.OK}, {is(0, 0), [][]int{{1, 0}, {1, 0}, {0, 1}}, -1, is(2, 1), api.OK}, {is(0, 0), [][]int{{1, 0}, {0, 1}, {1, 0}}, 1, is(1, 0), api.OK}, {is(0, 0), [][]int{{1, 0}, {0}}, 1, is(1, 0), api.OK}, {is(0, 0), [][]int{{7, 0}}, 0, is(0, 0), api.OK}, {is(1, 1), [][]int{{0, 0}}, 0, nil, api.ErrClash}, {is(1), nil, 0, nil, api.ErrForm},
	} {
		if n, s, e := rig.Follow(r(), c.s, c.plan); n != c.n || e != c.e || !slices.Equal(s, c.last) {
			t.Error(i, n, s, e)
		}
	}
}

func TestP8_4Merge(t *testing.T) {
	ask := func(machine, move, rank int) api.Request {
		return api.Request{Machine: machine, Move: move, Rank: rank}
	}
	for i, c := range []struct {
		s           []int
		l           []api.Request
		move, taken []int
		e           api.Errno
	}{
		{is(0, 0), []api.Request{ask(1, 1, 5), ask(0, 1, 3)}, is(1, 0), is(1), api.OK}, {is(0, 0), []api.Request{ask(1, 1, 5), ask(0, 1, 5)}, is(0, 1), is(0), api.OK}, {is(0, 0), nil, is(0, 0), nil, api.OK},
		{is(2, 1), []api.Request{ask(1, 1, 5), ask(1, -1, 3), ask(1, 0, 3), ask(0, 1, 0)}, is(0, -1), is(1), api.OK},
		{is(2, 1), []api.Request{ask(1, -1, 9), ask(1, 0, 3), ask(0, 0, 9)}, is(0, 0), is(1, 2), api.OK},
		{is(0, 0), []api.Request{ask(0, -1, 1), ask(0, 1, 2)}, is(1, 0), is(1), api.OK},
		{is(0, 0), []api.Request{ask(1, 1, 7), ask(0, 0, 7)}, is(0, 1), is(0, 1), api.OK},
		{is(1, 1), make([]api.Request, 13), nil, nil, api.ErrClash}, {is(0, 0), append(make([]api.Request, 12), ask(9, 9, 9)), nil, nil, api.ErrFull}, {is(0, 0), []api.Request{ask(2, 9, 9)}, nil, nil, api.ErrMissing}, {is(0, 0), []api.Request{ask(-1, 0, 0)}, nil, nil, api.ErrMissing},
		{is(0, 0), []api.Request{ask(0, 2, 0), ask(2, 0, 0)}, nil, nil, api.ErrRange}, {is(0, 0), []api.Request{ask(2, 0, 0), ask(0, 2, 0)}, nil, nil, api.ErrMissing}, {is(0, 0), []api.Request{ask(0, 0, 100)}, nil, nil, api.ErrRange}, {is(0, 0), []api.Request{ask(0, 0, -1)}, nil, nil, api.ErrRange}, {is(0, 0), slices.Repeat([]api.Request{ask(0, 0, 99)}, 12), is(0, 0), is(0), api.OK},
	} {
		m, taken, e := rig.Merge(r(), c.s, c.l)
		if e != c.e || !slices.Equal(m, c.move) || !slices.Equal(taken, c.taken) {
			t.Error(i, m, taken, e)
		}
	}
}

func TestP8_5Ticks(t *testing.T) {
	for i, c := range []struct {
		goal []api.Span
		want api.Errno
	}{{aim(), api.OK}, {aim()[:1], api.ErrForm}, {nil, api.ErrForm}, {[]api.Span{{Lo: 0, Hi: 3}, {}}, api.ErrRange}, {[]api.Span{{Lo: 2, Hi: 1}, {}}, api.ErrRange}, {[]api.Span{{Lo: -1, Hi: 1}, {}}, api.ErrRange}, {[]api.Span{{}, {Lo: 0, Hi: 2}}, api.OK}} {
		if e := rig.CheckGoal(r(), c.goal); e != c.want {
			t.Error(i, e)
		}
		if _, e := rig.Ticks(r(), is(0, 0), c.goal, 9); e != c.want && c.want != api.OK {
			t.Error(i, e)
		}
	}
	for losses, want := range is(4, 5, 6) {
		if n, e := rig.Ticks(r(), is(0, 2), aim(), losses); n != want || e != api.OK {
			t.Error(losses, n, e)
		}
	}
	if m, e := rig.Next(r(), is(0, 2), aim(), 0); e != api.OK || !slices.Equal(m, is(0, -1)) {
		t.Error(m, e)
	}
	if m, e := rig.Next(r(), is(2, 0), aim(), 2); e != api.OK || !slices.Equal(m, is(0, 0)) {
		t.Error(m, e)
	}
	wall := r()
	wall.Bans[0].BLo = 0
	for i, c := range []struct {
		r      api.Rig
		s      []int
		goal   []api.Span
		losses int
		want   api.Errno
	}{{wall, is(0, 0), aim(), 0, api.ErrLate}, {wall, is(2, 2), aim(), 0, api.OK}, {r(), is(1, 1), nil, 9, api.ErrClash}, {r(), is(0, 0), nil, 9, api.ErrForm}, {r(), is(0, 0), aim(), 3, api.ErrRange}, {r(), is(0, 0), aim(), -1, api.ErrRange}, {r(), is(0, 0), []api.Span{{Lo: 1, Hi: 1}, {Lo: 1, Hi: 1}}, 0, api.ErrLate}} {
		n, e := rig.Ticks(c.r, c.s, c.goal, c.losses)
		m, f := rig.Next(c.r, c.s, c.goal, c.losses)
		if e != c.want || f != c.want || e != api.OK && (n != 0 || m != nil) {
			t.Error(i, n, e, m, f)
		}
	}
}

func TestP8_6Ready(t *testing.T) {
	wall := r()
	wall.Bans[0].BLo = 0
	for i, c := range []struct {
		r            api.Rig
		goal         []api.Span
		losses       int
		worst, stuck int
		e            api.Errno
	}{
		{r(), aim(), 0, 4, 0, api.OK}, {r(), aim(), 1, 5, 0, api.OK}, {r(), aim(), 2, 6, 0, api.OK}, {wall, aim(), 0, 2, 3, api.OK}, {r(), []api.Span{{Lo: 1, Hi: 1}, {Lo: 1, Hi: 1}}, 0, 0, 7, api.OK}, {r(), []api.Span{{Lo: 0, Hi: 2}, {Lo: 0, Hi: 2}}, 2, 0, 0, api.OK},
		{r(), nil, 9, 0, 0, api.ErrForm}, {r(), aim(), 3, 0, 0, api.ErrRange}, {r(), aim(), -1, 0, 0, api.ErrRange},
	} {
		if w, s, e := rig.Ready(c.r, c.goal, c.losses); w != c.worst || s != c.stuck || e != c.e {
			t.Error(i, w, s, e)
		}
	}
}

// stand is a string of so many lengths.
func stand(count, long int64) api.String {
	return api.String{Tubes: []api.Tube{{Count: count, Len: long, Air: 1, Steel: 1, Out: 2, Yield: 1, Twist: 1}}}
}

func TestP8_7Shear(t *testing.T) {
	x := api.Ram{Faces: 2000, Step: 100, Near: 20}
	one := api.Span{Lo: 1, Hi: 1}
	row := func(lo, hi int) api.Ban { return api.Ban{A: 0, ALo: lo, AHi: hi, B: 1, BLo: 1, BHi: 1} }
	for i, c := range []struct {
		x    api.Ram
		s    api.String
		want []api.Ban
	}{
		{x, stand(4, 1000), []api.Ban{row(0, 0)}}, {api.Ram{Faces: 2120, Step: 100, Near: 20}, stand(4, 1000), []api.Ban{row(1, 1)}}, {api.Ram{Faces: 2121, Step: 100, Near: 20}, stand(4, 1000), nil}, {api.Ram{Faces: 2150, Step: 100, Near: 50}, stand(4, 1000), []api.Ban{row(1, 2)}},
		{api.Ram{Faces: 2000, Step: 500, Near: 0}, stand(4, 1000), []api.Ban{row(0, 0), row(2, 2), row(4, 4)}}, {api.Ram{Faces: 400, Step: 100, Near: 100}, stand(40, 100), []api.Ban{row(0, 5)}}, {api.Ram{Faces: 40000, Step: 100, Near: 100}, stand(40, 100), nil}, {api.Ram{Faces: 2000, Step: 100, Near: 100}, stand(40, 100), []api.Ban{row(0, 7)}},
	} {
		if l, e := rig.Shear(c.x, c.s, 0, 8, 1, one); e != api.OK || !slices.Equal(l, c.want) {
			t.Error(i, l, e)
		}
	}
	if l, e := rig.Shear(x, stand(4, 1000), 3, 8, 2, api.Span{Lo: 0, Hi: 7}); e != api.OK || !slices.Equal(l, []api.Ban{{A: 2, ALo: 0, AHi: 7, B: 3}}) {
		t.Error(l, e)
	}
	for i, c := range []struct {
		x                  api.Ram
		s                  api.String
		hoist, places, ram int
		closed             api.Span
		want               api.Errno
	}{
		{api.Ram{}, api.String{}, 0, 0, 0, one, api.ErrShort}, {api.Ram{Faces: -1, Step: 1}, stand(4, 1000), 0, 0, 0, one, api.ErrRange}, {api.Ram{Faces: 1<<20 + 1, Step: 1}, stand(4, 1000), 0, 0, 0, one, api.ErrRange}, {api.Ram{Step: 0}, stand(4, 1000), 0, 0, 0, one, api.ErrRange}, {api.Ram{Step: 4001}, stand(4, 1000), 0, 8, 1, one, api.ErrRange}, {api.Ram{Step: 1, Near: -1}, stand(4, 1000), 0, 8, 1, one, api.ErrRange}, {api.Ram{Step: 1, Near: 101}, stand(4, 1000), 0, 8, 1, one, api.ErrRange},
		{x, stand(4, 1000), 1, 0, 1, one, api.ErrOrder}, {x, stand(4, 1000), -1, 8, 1, one, api.ErrOrder}, {x, stand(4, 1000), 4, 8, 1, one, api.ErrOrder}, {x, stand(4, 1000), 0, 8, -1, one, api.ErrOrder}, {x, stand(4, 1000), 0, 8, 4, one, api.ErrOrder},
		{x, stand(4, 1000), 0, 1, 1, one, api.ErrRange}, {x, stand(4, 1000), 0, 9, 1, one, api.ErrRange}, {x, stand(4, 1000), 0, 8, 1, api.Span{Lo: 2, Hi: 1}, api.ErrRange}, {x, stand(4, 1000), 0, 8, 1, api.Span{Lo: -1, Hi: 1}, api.ErrRange}, {x, stand(4, 1000), 0, 8, 1, api.Span{Lo: 0, Hi: 8}, api.ErrRange}, {api.Ram{Faces: 1 << 20, Step: 4000, Near: 100}, stand(4, 1000), 0, 2, 3, api.Span{Lo: 7, Hi: 7}, api.OK},
	} {
		if l, e := rig.Shear(c.x, c.s, c.hoist, c.places, c.ram, c.closed); e != c.want || e != api.OK && l != nil {
			t.Error(i, l, e)
		}
	}
}
