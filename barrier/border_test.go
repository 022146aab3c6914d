package barrier_test

import (
	"slices"
	"testing"

	"moonpool/api"
	"moonpool/barrier"
)

// The borders of what is valid belong to it.

// greatest is a site with as much of everything as there may be.
func greatest() (api.Site, []api.Entry) {
	s := api.Site{Tick: 1 << 40, Crew: 20, Holder: 19, Offer: 18, Press: 1 << 36, Broken: -1}
	var all []int
	for n := range 10 {
		s.House.Elements = append(s.House.Elements, api.Element{State: api.Sound, Bears: 1 << 36, Tested: 1 << 40, Until: 1 << 41})
		all = append(all, n)
	}
	s.House.Envelopes, s.House.Need = slices.Repeat([][]int{all}, 8), 1
	for op := range 16 {
		s.Permits = append(s.Permits, api.Permit{Op: op, Who: 19, Until: 1 << 41, Open: op%2 == 0})
	}
	return s, slices.Repeat([]api.Entry{{Tick: 1 << 40, Kind: api.EntryFail, Who: 3, At: 9}}, 200)
}

func TestP9_4TheGreatestLog(t *testing.T) {
	s, l := greatest()
	if e := barrier.Check(s); e != api.OK {
		t.Fatal(e)
	}
	text, e := barrier.Log(s, l)
	if e != api.OK || len(text) != 4+8*(5+1+40+1+8*11+1+1+64+1+1+1200) {
		t.Fatal(len(text), e)
	}
	if got, m, e := barrier.Read(text); e != api.OK || !barrier.Same(got, s) || !slices.Equal(m, l) {
		t.Error(got, e)
	}
	if end, n, e := barrier.Replay(text); n != 1 || e != api.ErrState || end.House.Elements[9].State != api.Failed || end.Broken != 1<<40 {
		t.Error(end, n, e)
	}
	if cuts := barrier.Cuts(s.House, 1<<40, 5); len(cuts) != 10 || !slices.Equal(cuts[9], is(9)) {
		t.Error(cuts)
	}
	if n, ok := barrier.Lapse(s.House, 1<<40, 5); n != 1<<41+1 || !ok {
		t.Error(n, ok)
	}
}

func TestP9_3TheLeastSite(t *testing.T) {
	s := api.Site{Crew: 1, Offer: -1, House: api.House{Elements: []api.Element{{State: api.Sound}}, Envelopes: [][]int{{0}}, Need: 1}, Broken: -1}
	if e := barrier.Check(s); e != api.OK {
		t.Fatal(e)
	}
	if n, ok := barrier.Lapse(s.House, 0, 0); n != 1 || !ok {
		t.Error(n, ok)
	}
	open := do(t, s, api.Entry{Kind: api.EntryPermit, At: 0, N: 0}, api.Entry{Kind: api.EntryStart, At: 0})
	if !slices.Equal(open.Permits, []api.Permit{{Open: true}}) {
		t.Error(open)
	}
	text, e := barrier.Log(open, nil)
	if got, l, f := barrier.Read(text); e != api.OK || f != api.OK || l != nil || !barrier.Same(got, open) {
		t.Error(got, e, f)
	}
	if broken := do(t, open, api.Entry{Tick: 1, Kind: api.EntryPermit, At: 1, N: 1}); broken.Broken != 1 {
		t.Error(broken)
	}
}
