package barrier_test

import (
	"slices"
	"strings"
	"testing"

	"moonpool/api"
	"moonpool/barrier"
)

// h is the house H of the chapter's examples.
func h() api.House {
	return api.House{
		Elements:  []api.Element{{State: api.Sound, Bears: 1000, Until: 100}, {State: api.Sound, Bears: 2000, Until: 100}, {State: api.Sound, Bears: 1500, Until: 50}, {State: api.Untested}},
		Envelopes: [][]int{{0, 1}, {1, 2}, {2}, {3}},
		Need:      2,
	}
}

// site is one with H, at the tick 10 against 1000.
func site() api.Site {
	return api.Site{Tick: 10, Crew: 3, Holder: 0, Offer: -1, Press: 1000, House: h(), Broken: -1}
}

func is(l ...int) []int { return l }

func equal(a, b [][]int) bool {
	return slices.EqualFunc(a, b, func(x, y []int) bool { return slices.Equal(x, y) })
}

func TestP9_1CheckHouse(t *testing.T) {
	if e := barrier.CheckHouse(h()); e != api.OK {
		t.Error(e)
	}
	for i, c := range []struct {
		change func(*api.House)
		want   api.Errno
	}{
		{func(h *api.House) { h.Elements = nil; h.Envelopes = make([][]int, 9) }, api.ErrShort}, {func(h *api.House) { h.Elements = make([]api.Element, 11); h.Elements[0].State = 9 }, api.ErrFull}, {func(h *api.House) { h.Envelopes = make([][]int, 9); h.Elements[0].State = 9 }, api.ErrFull}, {func(h *api.House) { h.Elements = make([]api.Element, 10); h.Envelopes = slices.Repeat([][]int{{9}}, 8) }, api.OK},
		{func(h *api.House) { h.Elements[1].State = 4; h.Elements[1].Bears = -1; h.Elements[2].Bears = -1 }, api.ErrKind}, {func(h *api.House) { h.Elements[1].State = -1 }, api.ErrKind}, {func(h *api.House) { h.Elements[1].Bears = -1; h.Elements[2].State = -1 }, api.ErrRange},
		{func(h *api.House) { h.Elements[0].Bears = 1<<36 + 1 }, api.ErrRange}, {func(h *api.House) { h.Elements[0].Tested = -1 }, api.ErrRange}, {func(h *api.House) { h.Elements[0].Tested, h.Elements[0].Until = 1<<40+1, 1<<41 }, api.ErrRange}, {func(h *api.House) { h.Elements[0].Tested = 101 }, api.ErrRange}, {func(h *api.House) { h.Elements[0].Tested = 100 }, api.OK}, {func(h *api.House) { h.Elements[0].Until = 1<<41 + 1 }, api.ErrRange}, {func(h *api.House) { h.Elements[0].Until = 1 << 41 }, api.OK},
		{func(h *api.House) { h.Envelopes[1] = nil; h.Need = 0 }, api.ErrShort}, {func(h *api.House) { h.Envelopes[1] = is(4); h.Envelopes[2] = nil }, api.ErrOrder}, {func(h *api.House) { h.Envelopes[1] = nil; h.Envelopes[2] = is(4) }, api.ErrShort}, {func(h *api.House) { h.Envelopes[1] = is(1, 1) }, api.ErrOrder}, {func(h *api.House) { h.Envelopes[1] = is(2, 1) }, api.ErrOrder}, {func(h *api.House) { h.Envelopes[1] = is(-1) }, api.ErrOrder}, {func(h *api.House) { h.Envelopes = nil }, api.OK},
		{func(h *api.House) { h.Need = 0 }, api.ErrRange}, {func(h *api.House) { h.Need = 4 }, api.ErrRange}, {func(h *api.House) { h.Need = 3 }, api.OK},
	} {
		x := h()
		c.change(&x)
		if e := barrier.CheckHouse(x); e != c.want {
			t.Error(i, e, c.want)
		}
		s := site()
		s.House = x
		if c.want == api.OK {
			continue
		}
		if e := barrier.Check(s); e != c.want {
			t.Error(i, e, c.want)
		}
		l, ok := barrier.Proof(x, 10, 1000)
		n, lapses := barrier.Lapse(x, 10, 1000)
		if l != nil || ok || n != 0 || lapses || barrier.Effective(x, 0, 10, 0) || barrier.Standing(x, 10, 1000) != nil || barrier.Cuts(x, 10, 1000) != nil {
			t.Error(i, "a house that is not valid")
		}
	}
}

func TestP9_1Proof(t *testing.T) {
	for i, c := range []struct {
		n           int
		tick, press int64
		want        bool
	}{{0, 0, 1000, true}, {0, 100, 1000, true}, {0, 101, 1000, false}, {0, -1, 1000, false}, {0, 10, 1001, false}, {0, 10, -1 << 63, true}, {3, 0, 0, false}, {-1, 10, 0, false}, {4, 10, 0, false}, {2, 50, 1500, true}, {2, 51, 1500, false}} {
		if got := barrier.Effective(h(), c.n, c.tick, c.press); got != c.want {
			t.Error(i, got)
		}
	}
	failed := h()
	failed.Elements[0].State = api.Failed
	one := h()
	one.Envelopes[0] = is(0)
	three := one
	three.Need = 3
	for i, c := range []struct {
		h           api.House
		tick, press int64
		standing    []int
		proof       []int
	}{
		{h(), 10, 1000, is(0, 1, 2), is(0, 2)}, {h(), 10, 1001, is(1, 2), nil}, {h(), 51, 1000, is(0), nil}, {h(), 101, 0, nil, nil}, {failed, 10, 1000, is(1, 2), nil},
		{one, 10, 1000, is(0, 1, 2), is(0, 1)}, {three, 10, 1000, is(0, 1, 2), nil}, {h(), 50, 1000, is(0, 1, 2), is(0, 2)},
	} {
		if l := barrier.Standing(c.h, c.tick, c.press); !slices.Equal(l, c.standing) {
			t.Error(i, l)
		}
		if l, ok := barrier.Proof(c.h, c.tick, c.press); !slices.Equal(l, c.proof) || ok != (c.proof != nil) {
			t.Error(i, l, ok)
		}
	}
}

func TestP9_2CutsAndLapse(t *testing.T) {
	one := h()
	one.Envelopes[0] = is(0)
	wide := h()
	wide.Elements[3] = wide.Elements[0]
	for i, c := range []struct {
		h           api.House
		tick, press int64
		want        [][]int
	}{
		{h(), 10, 1000, [][]int{{0}, {1}, {2}}}, {one, 10, 1000, [][]int{{0}, {2}}}, {h(), 10, 1001, nil},
		// Without 2 there are 0 1 and 3 left, without 0 there are 2 and 3.
		{wide, 10, 1000, [][]int{{0, 2}, {0, 3}, {1, 2}, {1, 3}, {2, 3}}}, {wide, 51, 1000, [][]int{{0}, {1}, {3}}},
	} {
		if l := barrier.Cuts(c.h, c.tick, c.press); !equal(l, c.want) {
			t.Error(i, l, c.want)
		}
	}
	late := h()
	late.Elements[2].Tested, late.Elements[2].Until = 60, 70
	for i, c := range []struct {
		h           api.House
		tick, press int64
		want        int64
		ok          bool
	}{
		{h(), 10, 1000, 51, true}, {h(), 50, 1000, 51, true}, {h(), 51, 1000, 0, false}, {h(), 10, 1001, 0, false}, {h(), -1, 1000, 0, false}, {h(), 1<<40 + 1, 1000, 0, false}, {wide, 10, 1000, 101, true}, {late, 60, 1000, 71, true}, {late, 59, 1000, 0, false},
	} {
		if n, ok := barrier.Lapse(c.h, c.tick, c.press); n != c.want || ok != c.ok {
			t.Error(i, n, ok)
		}
	}
	// One test ends where another one begins to count.
	follow := api.House{Elements: []api.Element{{State: api.Sound, Until: 20}, {State: api.Sound, Tested: 21, Until: 1 << 41}}, Envelopes: [][]int{{0}, {1}}, Need: 1}
	if n, ok := barrier.Lapse(follow, 5, 0); n != 1<<41+1 || !ok {
		t.Error(n, ok)
	}
	follow.Elements[1].Tested = 22
	if n, ok := barrier.Lapse(follow, 5, 0); n != 21 || !ok {
		t.Error(n, ok)
	}
}

func TestP9_3Check(t *testing.T) {
	open := func(s *api.Site) { s.Permits = []api.Permit{{Op: 5, Who: 2, Until: 20, Open: true}} }
	for i, c := range []struct {
		change func(*api.Site)
		want   api.Errno
	}{
		{func(s *api.Site) {}, api.OK}, {func(s *api.Site) { s.Tick = -1; s.House = api.House{} }, api.ErrRange}, {func(s *api.Site) { s.Tick = 1<<40 + 1 }, api.ErrRange}, {func(s *api.Site) { s.Tick = 1 << 40 }, api.OK}, {func(s *api.Site) { s.Crew = 0 }, api.ErrRange}, {func(s *api.Site) { s.Crew = 21 }, api.ErrRange}, {func(s *api.Site) { s.Crew = 20 }, api.OK}, {func(s *api.Site) { s.Holder = 3 }, api.ErrRange}, {func(s *api.Site) { s.Holder = -1; s.Offer = 2 }, api.ErrRange},
		{func(s *api.Site) { s.Offer = 0 }, api.ErrRange}, {func(s *api.Site) { s.Offer = -2 }, api.ErrRange}, {func(s *api.Site) { s.Offer = 3 }, api.ErrRange}, {func(s *api.Site) { s.Offer = 2 }, api.OK}, {func(s *api.Site) { s.Press = -1 }, api.ErrRange}, {func(s *api.Site) { s.Press = 1<<36 + 1 }, api.ErrRange}, {func(s *api.Site) { s.Press = 1 << 36 }, api.OK},
		{func(s *api.Site) { s.House.Need = 0; s.Permits = make([]api.Permit, 17) }, api.ErrRange}, {func(s *api.Site) { s.Permits = make([]api.Permit, 17) }, api.ErrFull}, {func(s *api.Site) { s.Permits = []api.Permit{{Op: 1, Who: 9}, {Op: 1}} }, api.ErrOrder}, {func(s *api.Site) { s.Permits = []api.Permit{{Op: 16}} }, api.ErrOrder}, {func(s *api.Site) { s.Permits = []api.Permit{{Op: -1}} }, api.ErrOrder},
		{func(s *api.Site) { s.Permits = []api.Permit{{Op: 1, Who: 3}} }, api.ErrRange}, {func(s *api.Site) { s.Permits = []api.Permit{{Op: 1, Until: 1<<41 + 1}} }, api.ErrRange}, {func(s *api.Site) { s.Permits = []api.Permit{{Op: 1, Until: -1}} }, api.ErrRange}, {func(s *api.Site) { s.Permits = []api.Permit{{Op: 0, Until: 1 << 41}, {Op: 15, Who: 2}} }, api.OK},
		{func(s *api.Site) { s.Broken = 0 }, api.ErrState}, {func(s *api.Site) { s.Broken = -2 }, api.ErrState}, {open, api.OK}, {func(s *api.Site) { open(s); s.Broken = 5 }, api.ErrState},
		{func(s *api.Site) { open(s); s.Press = 1001 }, api.ErrState}, {func(s *api.Site) { open(s); s.Press = 1001; s.Broken = 10 }, api.OK}, {func(s *api.Site) { open(s); s.Press = 1001; s.Broken = 0 }, api.OK}, {func(s *api.Site) { open(s); s.Press = 1001; s.Broken = 11 }, api.ErrState},
	} {
		s := site()
		c.change(&s)
		if e := barrier.Check(s); e != c.want {
			t.Error(i, e, c.want)
		}
		_, a := barrier.Do(s, api.Entry{Tick: -1})
		_, n, b := barrier.Run(s, make([]api.Entry, 201))
		text, d := barrier.Log(s, make([]api.Entry, 201))
		if c.want == api.OK && (a != api.ErrRange || b != api.ErrFull || d != api.ErrFull) || c.want != api.OK && (a != c.want || b != c.want || d != c.want) || n != 0 || text != "" {
			t.Error(i, a, n, b, d)
		}
	}
}

// do does entries, and fails if one has an error.
func do(t *testing.T, s api.Site, l ...api.Entry) api.Site {
	t.Helper()
	end, n, e := barrier.Run(s, l)
	if n != -1 || e != api.OK {
		t.Fatal(n, e)
	}
	return end
}

func TestP9_3Entries(t *testing.T) {
	open := do(t, site(), api.Entry{Tick: 10, Kind: api.EntryPermit, At: 5, To: 2, N: 20}, api.Entry{Tick: 11, Kind: api.EntryStart, Who: 2, At: 5})
	granted := do(t, site(), api.Entry{Tick: 10, Kind: api.EntryPermit, At: 5, To: 2, N: 20})
	entry := func(kind, who, at, to int, n int64) api.Entry {
		return api.Entry{Tick: 12, Kind: kind, Who: who, At: at, To: to, N: n}
	}
	for i, c := range []struct {
		s    api.Site
		e    api.Entry
		want api.Errno
	}{
		{site(), api.Entry{Tick: -1, Who: -1}, api.ErrRange}, {site(), api.Entry{Tick: 1<<40 + 1}, api.ErrRange}, {site(), api.Entry{Tick: 9, Who: -1}, api.ErrOrder}, {site(), api.Entry{Tick: 10, Who: -1}, api.ErrRange}, {site(), api.Entry{Tick: 10, Who: 3}, api.ErrRange}, {site(), entry(0, 0, 0, 0, 0), api.ErrKind}, {site(), entry(11, 0, 0, 0, 0), api.ErrKind},
		{site(), entry(1, 0, -1, 0, 0), api.ErrRange}, {site(), entry(1, 0, 4, 0, 0), api.ErrRange}, {site(), entry(1, 0, 0, 0, 0), api.ErrState}, {site(), entry(1, 0, 3, 0, 0), api.ErrState},
		{site(), entry(2, 0, -1, 1, 1), api.ErrRange}, {site(), entry(2, 0, 4, 1, 1), api.ErrRange}, {site(), entry(2, 0, 3, 1, 0), api.ErrRange}, {site(), entry(2, 0, 3, 1, 1<<36+1), api.ErrRange}, {site(), entry(2, 0, 3, 0, 1), api.ErrRange}, {site(), entry(2, 0, 3, 1<<24+1, 1), api.ErrRange}, {site(), entry(2, 0, 3, 1<<24, 1<<36), api.OK}, {site(), entry(2, 0, 0, 1, 1), api.OK},
		{site(), entry(3, 0, -1, 0, 0), api.ErrRange}, {site(), entry(3, 0, 4, 0, 0), api.ErrRange}, {site(), entry(3, 1, 3, 0, 0), api.OK}, {site(), entry(4, 0, 4, 0, 0), api.ErrRange}, {site(), entry(4, 0, -1, 0, 0), api.ErrRange}, {site(), entry(4, 2, 0, 0, 0), api.OK}, {open, entry(4, 2, 0, 0, 0), api.ErrBarrier}, {open, entry(4, 2, 3, 0, 0), api.OK},
		{site(), entry(5, 1, 0, 0, -1), api.ErrState}, {site(), entry(5, 0, 0, 0, -1), api.ErrRange}, {site(), entry(5, 0, 0, 0, 1<<36+1), api.ErrRange}, {site(), entry(5, 0, 0, 0, 1<<36), api.OK}, {open, entry(5, 0, 0, 0, 1001), api.ErrBarrier}, {open, entry(5, 0, 0, 0, 1000), api.OK}, {open, entry(5, 0, 0, 0, 0), api.OK},
		{site(), entry(6, 1, 0, 9, 0), api.ErrState}, {site(), entry(6, 0, 0, 3, 0), api.ErrRange}, {site(), entry(6, 0, 0, -1, 0), api.ErrRange}, {site(), entry(6, 0, 0, 0, 0), api.ErrRange}, {site(), entry(6, 0, 0, 2, 0), api.OK}, {site(), entry(7, 1, 0, 0, 0), api.ErrState}, {site(), entry(7, 0, 0, 0, 0), api.ErrState},
		{site(), entry(8, 1, -1, 0, 0), api.ErrState}, {site(), entry(8, 0, -1, 1, 20), api.ErrRange}, {site(), entry(8, 0, 16, 1, 20), api.ErrRange}, {site(), entry(8, 0, 15, 3, 20), api.ErrRange}, {site(), entry(8, 0, 15, -1, 20), api.ErrRange}, {site(), entry(8, 0, 15, 1, 11), api.ErrRange}, {site(), entry(8, 0, 15, 1, 12), api.OK}, {site(), entry(8, 0, 15, 1, 1<<41+1), api.ErrRange}, {site(), entry(8, 0, 15, 1, 1<<41), api.OK}, {open, entry(8, 0, 5, 1, 20), api.ErrExists}, {open, entry(8, 0, 4, 1, 20), api.OK}, {granted, entry(8, 0, 5, 1, 20), api.OK},
		{site(), entry(9, 2, 5, 0, 0), api.ErrMissing}, {granted, entry(9, 1, 5, 0, 0), api.ErrMissing}, {granted, entry(9, 0, 5, 0, 0), api.ErrMissing}, {granted, entry(9, 2, 4, 0, 0), api.ErrMissing}, {granted, entry(9, 2, -1<<63, 0, 0), api.ErrMissing}, {open, entry(9, 2, 5, 0, 0), api.ErrExists}, {open, api.Entry{Tick: 99, Kind: 9, Who: 2, At: 5}, api.ErrExists}, {granted, api.Entry{Tick: 21, Kind: 9, Who: 2, At: 5}, api.ErrLate}, {granted, api.Entry{Tick: 20, Kind: 9, Who: 2, At: 5}, api.OK},
		{site(), entry(10, 0, 5, 0, 0), api.ErrMissing}, {granted, entry(10, 2, 5, 0, 0), api.ErrMissing}, {open, entry(10, 1, 5, 0, 0), api.ErrState}, {open, entry(10, 2, 5, 0, 0), api.OK}, {open, entry(10, 0, 5, 0, 0), api.OK}, {open, entry(10, 0, 1<<63-1, 0, 0), api.ErrMissing},
	} {
		s, e := barrier.Do(c.s, c.e)
		if e != c.want || e != api.OK && !barrier.Same(s, api.Site{}) || e == api.OK && s.Tick != c.e.Tick {
			t.Error(i, s, e, c.want)
		}
	}
	weak := granted
	weak.Press = 1001
	if _, e := barrier.Do(weak, entry(9, 2, 5, 0, 0)); e != api.ErrBarrier {
		t.Error(e)
	}
	if _, e := barrier.Do(granted, api.Entry{Tick: 51, Kind: 9, Who: 2, At: 5}); e != api.ErrLate {
		t.Error(e)
	}
}

func TestP9_3WhatEntriesDo(t *testing.T) {
	same := func(name string, got api.Site, change func(*api.Site)) {
		t.Helper()
		want := site()
		want.Tick = 12
		change(&want)
		if !barrier.Same(got, want) {
			t.Error(name, got, want)
		}
	}
	failed := do(t, site(), api.Entry{Tick: 12, Kind: api.EntryFail, Who: 1, At: 1})
	same("fail", failed, func(s *api.Site) { s.House.Elements[1].State = api.Failed })
	same("install", do(t, failed, api.Entry{Tick: 12, Kind: api.EntryInstall, At: 1}), func(s *api.Site) { s.House.Elements[1] = api.Element{State: api.Untested} })
	removed := do(t, site(), api.Entry{Tick: 12, Kind: api.EntryRemove, At: 1})
	same("remove", removed, func(s *api.Site) { s.House.Elements[1] = api.Element{} })
	if _, e := barrier.Do(removed, api.Entry{Tick: 12, Kind: api.EntryRemove, At: 1}); e != api.ErrState {
		t.Error(e)
	}
	for kind, want := range map[int]api.Errno{api.EntryTest: api.ErrState, api.EntryFail: api.ErrState, api.EntryInstall: api.OK} {
		if _, e := barrier.Do(removed, api.Entry{Tick: 12, Kind: kind, At: 1, To: 5, N: 5}); e != want {
			t.Error(kind, e)
		}
	}
	for kind, want := range map[int]api.Errno{api.EntryTest: api.ErrState, api.EntryFail: api.ErrState, api.EntryRemove: api.OK} {
		if _, e := barrier.Do(failed, api.Entry{Tick: 12, Kind: kind, At: 1, To: 5, N: 5}); e != want {
			t.Error(kind, e)
		}
	}
	same("test", do(t, site(), api.Entry{Tick: 12, Kind: api.EntryTest, At: 3, To: 7, N: 900}), func(s *api.Site) {
		s.House.Elements[3] = api.Element{State: api.Sound, Bears: 900, Tested: 12, Until: 19}
	})
	same("press", do(t, site(), api.Entry{Tick: 12, Kind: api.EntryPress, N: 7}), func(s *api.Site) { s.Press = 7 })
	offered := do(t, site(), api.Entry{Tick: 12, Kind: api.EntryOffer, To: 1})
	same("offer", offered, func(s *api.Site) { s.Offer = 1 })
	same("take", do(t, offered, api.Entry{Tick: 12, Kind: api.EntryTake, Who: 1}), func(s *api.Site) { s.Holder = 1 })
	if _, e := barrier.Do(offered, api.Entry{Tick: 12, Kind: api.EntryTake, Who: 2}); e != api.ErrState {
		t.Error(e)
	}
	many := do(t, site(), api.Entry{Tick: 12, Kind: api.EntryPermit, At: 5, To: 1, N: 30}, api.Entry{Tick: 12, Kind: api.EntryPermit, At: 2, To: 2, N: 31}, api.Entry{Tick: 12, Kind: api.EntryPermit, At: 9, To: 0, N: 32}, api.Entry{Tick: 12, Kind: api.EntryPermit, At: 5, To: 2, N: 33})
	same("permit", many, func(s *api.Site) {
		s.Permits = []api.Permit{{Op: 2, Who: 2, Until: 31}, {Op: 5, Who: 2, Until: 33}, {Op: 9, Who: 0, Until: 32}}
	})
	started := do(t, many, api.Entry{Tick: 12, Kind: api.EntryStart, Who: 2, At: 5})
	same("start", started, func(s *api.Site) {
		s.Permits = []api.Permit{{Op: 2, Who: 2, Until: 31}, {Op: 5, Who: 2, Until: 33, Open: true}, {Op: 9, Who: 0, Until: 32}}
	})
	same("stop", do(t, started, api.Entry{Tick: 12, Kind: api.EntryStop, Who: 0, At: 5}), func(s *api.Site) { s.Permits = slices.Clone(many.Permits) })
}

func TestP9_3Broken(t *testing.T) {
	open := do(t, site(), api.Entry{Tick: 10, Kind: api.EntryPermit, At: 5, To: 2, N: 20}, api.Entry{Tick: 20, Kind: api.EntryStart, Who: 2, At: 5})
	if _, e := barrier.Do(open, api.Entry{Tick: 20, Kind: api.EntryRemove, At: 2}); e != api.ErrBarrier {
		t.Error(e)
	}
	fail := api.Entry{Tick: 20, Kind: api.EntryFail, At: 2}
	other := api.Entry{Tick: 60, Kind: api.EntryOffer, To: 1}
	broken := do(t, open, fail)
	for i, c := range []struct {
		s    api.Site
		l    []api.Entry
		want int64
	}{
		{open, nil, -1}, {broken, nil, 20}, {broken, []api.Entry{other}, 20}, {open, []api.Entry{other}, 51}, {open, []api.Entry{{Tick: 50, Kind: api.EntryOffer, To: 1}}, -1}, {open, []api.Entry{{Tick: 30, Kind: api.EntryFail, At: 2}}, 30},
		// A lesser result of a test, a stop, and what makes it whole again.
		{open, []api.Entry{{Tick: 33, Kind: api.EntryTest, At: 0, To: 9, N: 999}}, 33}, {broken, []api.Entry{{Tick: 40, Kind: api.EntryStop, Who: 2, At: 5}}, -1},
		{broken, []api.Entry{{Tick: 40, Kind: api.EntryTest, At: 3, To: 9, N: 1000}}, -1}, {open, []api.Entry{{Tick: 60, Kind: api.EntryTest, At: 3, To: 9, N: 1000}}, -1}, {open, []api.Entry{{Tick: 60, Kind: api.EntryTest, At: 3, To: 9, N: 999}}, 51},
		{open, []api.Entry{{Tick: 60, Kind: api.EntryTest, At: 3, To: 9, N: 1000}, {Tick: 75, Kind: api.EntryOffer, To: 1}}, 70},
		{site(), []api.Entry{{Tick: 60, Kind: api.EntryFail, At: 0}}, -1},
		{open, []api.Entry{{Tick: 60, Kind: api.EntryStop, Who: 0, At: 5}}, -1},
	} {
		if s := do(t, c.s, c.l...); s.Broken != c.want {
			t.Error(i, s.Broken, c.want)
		}
	}
	// The rule ceases to hold at 51, holds again from 55 on, and is broken by a failure at 58: since 51.
	gap := barrier.Copy(open)
	gap.House.Elements[3] = api.Element{State: api.Sound, Bears: 1000, Tested: 55, Until: 99}
	if s := do(t, gap, api.Entry{Tick: 58, Kind: api.EntryFail, At: 0}); s.Broken != 51 {
		t.Error(s.Broken)
	}
	if s := do(t, gap, api.Entry{Tick: 58, Kind: api.EntryOffer, To: 1}); s.Broken != -1 {
		t.Error(s.Broken)
	}
}

func TestP9_3Run(t *testing.T) {
	offer, wrong := api.Entry{Tick: 12, Kind: api.EntryOffer, To: 1}, api.Entry{Tick: 5}
	s, n, e := barrier.Run(site(), []api.Entry{offer, wrong, offer})
	if want := do(t, site(), offer); !barrier.Same(s, want) || n != 1 || e != api.ErrOrder {
		t.Error(s, n, e)
	}
	if s, n, e := barrier.Run(site(), nil); !barrier.Same(s, site()) || n != -1 || e != api.OK {
		t.Error(s, n, e)
	}
	if s, n, e := barrier.Run(site(), slices.Repeat([]api.Entry{offer}, 200)); s.Offer != 1 || n != -1 || e != api.OK {
		t.Error(s, n, e)
	}
	if s, n, e := barrier.Run(site(), slices.Repeat([]api.Entry{offer}, 201)); !barrier.Same(s, api.Site{}) || n != 0 || e != api.ErrFull {
		t.Error(s, n, e)
	}
	if s, n, e := barrier.Run(api.Site{}, nil); !barrier.Same(s, api.Site{}) || n != 0 || e != api.ErrRange {
		t.Error(s, n, e)
	}
}

func TestP9_4Log(t *testing.T) {
	s := api.Site{Tick: 1, Crew: 2, Holder: 1, Offer: -1, Press: 258, House: api.House{Elements: []api.Element{{State: 2, Bears: 3, Tested: 4, Until: 5}}, Envelopes: [][]int{{0}}, Need: 1}, Permits: []api.Permit{{Op: 6, Who: 0, Until: 7}}, Broken: -1}
	eight := func(n ...byte) string {
		text := ""
		for _, x := range n {
			text += "\x00\x00\x00\x00\x00\x00\x00" + string([]byte{x})
		}
		return text
	}
	least := strings.Repeat("\xff", 8)
	want := "mpl1" + eight(1, 2, 1) + least + "\x00\x00\x00\x00\x00\x00\x01\x02" + eight(1, 2, 3, 4, 5, 1, 1, 0, 1, 1, 6, 0, 7, 0) + least + eight(1) + eight(9, 8, 7, 6, 5) + "\x80\x00\x00\x00\x00\x00\x00\x00"
	l := []api.Entry{{Tick: 9, Kind: 8, Who: 7, At: 6, To: 5, N: -1 << 63}}
	text, e := barrier.Log(s, l)
	if e != api.OK || text != want {
		t.Errorf("%q %v", text, e)
	}
	if got, m, e := barrier.Read(want); !barrier.Same(got, s) || !slices.Equal(m, l) || e != api.OK {
		t.Error(got, m, e)
	}
	// An open permit is a 1; any other number is none.
	openAt := 4 + 8*(5+1+4+1+1+1+1+1+3)
	if text, _ := barrier.Log(api.Site{}, nil); text != "" {
		t.Error("a site that is not valid")
	}
	replace := func(at int, with string) string { return want[:at] + with + want[at+len(with):] }
	if got, _, e := barrier.Read(replace(openAt, eight(1))); e != api.ErrForm {
		t.Error("the rule does not hold, so Broken has to say so", got, e)
	}
	for i, b := range []string{"", "mpl", "mpl1", "mpl2" + want[4:], want + "\x00", want[:len(want)-1], want[4:], replace(openAt, eight(2)), replace(openAt, least), replace(4+8, eight(0)), replace(4+40, least), replace(4+40, eight(11)), replace(4+40, "\x7f"), replace(len(want)-56, least), replace(len(want)-56, eight(2)), replace(len(want)-56, eight(0)), replace(len(want)-56, eight(201))} {
		got, m, e := barrier.Read(b)
		again, n, f := barrier.Replay(b)
		if e != api.ErrForm || f != api.ErrForm || m != nil || n != 0 || !barrier.Same(got, api.Site{}) || !barrier.Same(again, api.Site{}) {
			t.Error(i, got, m, e)
		}
	}
	if got, n, e := barrier.Replay(want); !barrier.Same(got, s) || n != 0 || e != api.ErrRange {
		t.Error(got, n, e)
	}
}

func TestP9_5SameAndCopy(t *testing.T) {
	s := do(t, site(), api.Entry{Tick: 10, Kind: api.EntryPermit, At: 5, To: 2, N: 20})
	kept := barrier.Copy(s)
	for i, change := range []func(*api.Site){
		func(s *api.Site) { s.Tick++ }, func(s *api.Site) { s.Crew++ }, func(s *api.Site) { s.Holder++ }, func(s *api.Site) { s.Offer++ }, func(s *api.Site) { s.Press++ }, func(s *api.Site) { s.Broken++ },
		func(s *api.Site) { s.House.Elements[3].Until++ }, func(s *api.Site) { s.House.Envelopes[1][0]++ }, func(s *api.Site) { s.House.Envelopes[1] = nil }, func(s *api.Site) { s.House.Need++ }, func(s *api.Site) { s.Permits[0].Open = true }, func(s *api.Site) { s.Permits = nil },
	} {
		c := barrier.Copy(s)
		if !barrier.Same(c, s) {
			t.Error(i, "a copy differs")
		}
		change(&c)
		if barrier.Same(c, s) || !barrier.Same(s, kept) {
			t.Error(i, "a change")
		}
	}
	empty := api.Site{Permits: []api.Permit{}, House: api.House{Elements: []api.Element{}, Envelopes: [][]int{}}}
	if !barrier.Same(api.Site{}, empty) || !barrier.Same(barrier.Copy(empty), empty) {
		t.Error("empty lists")
	}
}
