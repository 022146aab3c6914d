package barrier_test

import (
	"math/rand"
	"slices"
	"testing"

	"moonpool/api"
	"moonpool/barrier"
)

// randomHouse makes a valid house with times up to 60 and pressures up to 9.
func randomHouse(r *rand.Rand) api.House {
	h := api.House{Need: []int{1, 1, 2, 2, 3}[r.Intn(5)]}
	for range 1 + r.Intn(7) {
		x := api.Element{State: []int{0, 1, 2, 2, 2, 2, 3}[r.Intn(7)], Bears: r.Int63n(10), Tested: r.Int63n(20)}
		x.Until = x.Tested + 10 + r.Int63n(40)
		h.Elements = append(h.Elements, x)
	}
	for range r.Intn(8) {
		var envelope []int
		for n := range h.Elements {
			if r.Intn(3) == 0 {
				envelope = append(envelope, n)
			}
		}
		if envelope != nil {
			h.Envelopes = append(h.Envelopes, envelope)
		}
	}
	return h
}

// independent finds in another way whether enough independent envelopes stand: all sets of envelopes.
func independent(h api.House, standing []int) ([]int, bool) {
	var best []int
	for set := range 1 << len(standing) {
		var l []int
		used := map[int]bool{}
		good := true
		for i, n := range standing {
			if set&(1<<i) == 0 {
				continue
			}
			l = append(l, n)
			for _, x := range h.Envelopes[n] {
				good = good && !used[x]
				used[x] = true
			}
		}
		if good && len(l) == h.Need && (best == nil || slices.Compare(l, best) < 0) {
			best = l
		}
	}
	return best, best != nil
}

func TestP9_6Proofs(t *testing.T) {
	r := rand.New(rand.NewSource(96))
	proven := 0
	for range 3000 {
		h, tick, press := randomHouse(r), r.Int63n(50), r.Int63n(6)
		var standing []int
		for i, envelope := range h.Envelopes {
			if !slices.ContainsFunc(envelope, func(n int) bool { return !barrier.Effective(h, n, tick, press) }) {
				standing = append(standing, i)
			}
		}
		if l := barrier.Standing(h, tick, press); !slices.Equal(l, standing) {
			t.Fatal(h, l, standing)
		}
		want, ok := independent(h, standing)
		if l, holds := barrier.Proof(h, tick, press); holds != ok || !slices.Equal(l, want) {
			t.Fatal(h, l, want)
		}
		if ok {
			proven++
		}
	}
	if proven < 200 {
		t.Error(proven)
	}
}

// without is a house in which some elements failed.
func without(h api.House, set int) api.House {
	h.Elements = slices.Clone(h.Elements)
	for n := range h.Elements {
		if set&(1<<n) != 0 {
			h.Elements[n].State = api.Failed
		}
	}
	return h
}

func TestP9_7Cuts(t *testing.T) {
	r := rand.New(rand.NewSource(97))
	found := 0
	for range 2000 {
		h, tick, press := randomHouse(r), r.Int63n(40), r.Int63n(5)
		if _, ok := barrier.Proof(h, tick, press); !ok {
			continue
		}
		cuts := barrier.Cuts(h, tick, press)
		sets := map[int]bool{}
		for i, cut := range cuts {
			set := 0
			for _, n := range cut {
				set |= 1 << n
				if !barrier.Effective(h, n, tick, press) {
					t.Fatal("not effective", h, cut)
				}
			}
			sets[set] = true
			found++
			if i > 0 && (len(cuts[i-1]) > len(cut) || len(cuts[i-1]) == len(cut) && slices.Compare(cuts[i-1], cut) >= 0) || !slices.IsSorted(cut) {
				t.Fatal("the order", cuts)
			}
		}
		for set := range 1 << len(h.Elements) {
			contains := false
			for cut := range sets {
				contains = contains || set&cut == cut
				if set != cut && set&cut == set && sets[set] {
					t.Fatal("a lesser cut", h, cuts)
				}
			}
			if _, ok := barrier.Proof(without(h, set), tick, press); ok == contains {
				t.Fatal(h, cuts, set, ok)
			}
		}
	}
	if found < 300 {
		t.Error(found)
	}
}

func TestP9_8Lapses(t *testing.T) {
	r := rand.New(rand.NewSource(98))
	lapses := 0
	for range 2000 {
		h, tick, press := randomHouse(r), r.Int63n(40), r.Int63n(6)
		_, ok := barrier.Proof(h, tick, press)
		if _, higher := barrier.Proof(h, tick, press+1+r.Int63n(3)); higher && !ok {
			t.Fatal("a higher pressure", h, tick, press)
		}
		end, lapse := barrier.Lapse(h, tick, press)
		if lapse != ok {
			t.Fatal(h, tick, press, end, lapse)
		}
		if !ok {
			continue
		}
		lapses++
		for now := tick; now <= end; now++ {
			if _, ok := barrier.Proof(h, now, press); ok != (now < end) {
				t.Fatal(h, tick, now, end)
			}
		}
	}
	if lapses < 200 {
		t.Error(lapses)
	}
}

// randomEntry makes an entry that can often be done.
func randomEntry(r *rand.Rand, s api.Site) api.Entry {
	e := api.Entry{Tick: s.Tick + r.Int63n(6), Kind: 1 + r.Intn(10), Who: r.Intn(s.Crew), At: r.Intn(5), To: r.Intn(s.Crew), N: r.Int63n(8)}
	switch e.Kind {
	case api.EntryTest:
		e.To = 1 + r.Intn(40)
	case api.EntryPermit:
		e.N = e.Tick + r.Int63n(20)
	case api.EntryOffer, api.EntryPress:
		e.Who = s.Holder
	case api.EntryTake:
		e.Who = max(0, s.Offer)
	case api.EntryStart:
		for _, p := range s.Permits {
			e.At, e.Who = p.Op, p.Who
		}
	}
	if r.Intn(4) == 0 {
		e.Who = s.Holder
	}
	return e
}

// story is a site with entries of which many can be done.
func story(r *rand.Rand) (api.Site, []api.Entry) {
	for {
		s := api.Site{Tick: r.Int63n(10), Crew: 1 + r.Intn(3), Offer: -1, Press: r.Int63n(4), House: randomHouse(r), Broken: -1}
		if barrier.Check(s) != api.OK {
			continue
		}
		var l []api.Entry
		now := s
		for range 40 {
			e := randomEntry(r, now)
			l = append(l, e)
			if next, err := barrier.Do(now, e); err == api.OK {
				now = next
			}
		}
		return s, l
	}
}

func holds(s api.Site, tick int64) bool {
	_, ok := barrier.Proof(s.House, tick, s.Press)
	return ok
}

func isOpen(s api.Site) bool {
	return slices.ContainsFunc(s.Permits, func(p api.Permit) bool { return p.Open })
}

func TestP9_9To9_13Entries(t *testing.T) {
	r := rand.New(rand.NewSource(99))
	starts, breaks := 0, 0
	for range 2500 {
		now, l := story(r)
		for _, e := range l {
			kept := barrier.Copy(now)
			next, err := barrier.Do(now, e)
			if !barrier.Same(now, kept) {
				t.Fatal("P9.12: the argument was changed", now, e)
			}
			if err != api.OK {
				if !barrier.Same(next, api.Site{}) {
					t.Fatal(next)
				}
				continue
			}
			if barrier.Check(next) != api.OK {
				t.Fatal("P9.13", now, e, next)
			}
			if next.Holder != now.Holder && (e.Kind != api.EntryTake || e.Who != now.Offer || next.Holder != e.Who) {
				t.Fatal("P9.9", now, e, next)
			}
			if e.Kind == api.EntryStart {
				starts++
				if !holds(now, e.Tick) || next.Broken != -1 {
					t.Fatal("P9.10: an operation begins", now, e)
				}
			}
			if isOpen(next) && (e.Kind == api.EntryRemove || e.Kind == api.EntryPress) && !holds(next, next.Tick) {
				t.Fatal("P9.10: it breaks the rule", now, e)
			}
			checkBroken(t, now, next, e)
			if next.Broken != -1 {
				breaks++
			}
			now = next
		}
	}
	if starts < 100 || breaks < 50 {
		t.Error(starts, breaks)
	}
}

// checkBroken finds since when the rule is broken, tick by tick.
func checkBroken(t *testing.T, before, after api.Site, e api.Entry) {
	t.Helper()
	want := int64(-1)
	if isOpen(after) && !holds(after, after.Tick) {
		want = e.Tick
		if before.Broken != -1 {
			want = before.Broken
		} else if isOpen(before) {
			for tick := before.Tick; tick <= e.Tick; tick++ {
				if !holds(before, tick) {
					want = tick
					break
				}
			}
		}
	}
	if after.Broken != want {
		t.Fatal("Broken", before, e, after, want)
	}
}

func TestP9_11Replay(t *testing.T) {
	r := rand.New(rand.NewSource(911))
	for range 300 {
		s, l := story(r)
		text, e := barrier.Log(s, l)
		if e != api.OK {
			t.Fatal(e)
		}
		got, m, e := barrier.Read(text)
		if e != api.OK || !barrier.Same(got, s) || !slices.Equal(m, l) {
			t.Fatal(s, got)
		}
		end, n, err := barrier.Run(s, l)
		again, k, f := barrier.Replay(text)
		if !barrier.Same(end, again) || n != k || err != f {
			t.Fatal(end, n, err, again, k, f)
		}
		// Only what can be done, in two parts.
		var done []api.Entry
		now := s
		for _, x := range l {
			if next, e := barrier.Do(now, x); e == api.OK {
				done, now = append(done, x), next
			}
		}
		part := r.Intn(len(done) + 1)
		first, _, _ := barrier.Run(s, done[:part])
		second, n, e := barrier.Run(first, done[part:])
		if !barrier.Same(second, now) || n != -1 || e != api.OK {
			t.Fatal(second, now, n, e)
		}
		// A log that is cut, or in which a byte is another one, never panics.
		cut := r.Intn(len(text))
		if _, _, e := barrier.Read(text[:cut]); e != api.ErrForm {
			t.Fatal(cut)
		}
		bytes := []byte(text)
		bytes[cut] ^= byte(1 + r.Intn(255))
		if other, m, e := barrier.Read(string(bytes)); e == api.OK {
			if back, _ := barrier.Log(other, m); back != string(bytes) {
				t.Fatal("not the log of what was read")
			}
		}
	}
}

func TestR4NothingIsShared(t *testing.T) {
	s := site()
	next, _ := barrier.Do(s, api.Entry{Tick: 10, Kind: api.EntryOffer, To: 1})
	last, _, _ := barrier.Run(s, nil)
	for _, x := range []api.Site{next, last} {
		x.House.Elements[0].Bears = 5
		x.House.Envelopes[0][0] = 3
	}
	if !barrier.Same(s, site()) {
		t.Error(s)
	}
}

func TestP1AnyArguments(t *testing.T) {
	wild := []int64{-1 << 63, 1<<63 - 1, -1, 0, 1, 1 << 40}
	for _, x := range wild {
		for _, y := range wild {
			house := api.House{Elements: []api.Element{{State: int(x), Bears: y, Tested: x, Until: y}}, Envelopes: [][]int{{int(x), int(y)}}, Need: int(y)}
			barrier.CheckHouse(house)
			house.Elements[0] = api.Element{}
			barrier.CheckHouse(house)
			barrier.Effective(h(), int(x), y, x)
			barrier.Proof(h(), x, y)
			barrier.Cuts(h(), x, y)
			barrier.Lapse(h(), x, y)
			barrier.Check(api.Site{Tick: x, Crew: int(y), Holder: int(x), Offer: int(y), Press: x, House: h(), Permits: []api.Permit{{Op: int(x), Who: int(y), Until: x}}, Broken: y})
			for kind := range 12 {
				barrier.Do(site(), api.Entry{Tick: 10, Kind: kind, Who: 0, At: int(x), To: int(y), N: x})
				barrier.Do(site(), api.Entry{Tick: x, Kind: kind, Who: int(y), At: 0, To: 1, N: y})
			}
		}
	}
}
