package barrier

import (
	"cmp"
	"slices"

	"moonpool/api"
	"moonpool/exact"
)

// Check returns the first error of a site.
func Check(s api.Site) api.Errno {
	if !exact.Within(s.Tick, 0, api.MaxTick) || s.Crew < 1 || s.Crew > api.MaxCrew || !isCrew(s, s.Holder) ||
		s.Offer < -1 || s.Offer >= s.Crew || s.Offer == s.Holder || !exact.Within(s.Press, 0, api.MaxPress) {
		return api.ErrRange
	}
	if e := CheckHouse(s.House); e != api.OK {
		return e
	}
	if e := checkPermits(s); e != api.OK {
		return e
	}
	if !hasOpen(s) || holds(s.House, s.Tick, s.Press) {
		if s.Broken != -1 {
			return api.ErrState
		}
		return api.OK
	}
	if !exact.Within(s.Broken, 0, s.Tick) {
		return api.ErrState
	}
	return api.OK
}

// isCrew reports whether somebody is of the crew.
func isCrew(s api.Site, who int) bool { return who >= 0 && who < s.Crew }

// checkPermits returns the first error of the permits of a site.
func checkPermits(s api.Site) api.Errno {
	if len(s.Permits) > api.MaxOps {
		return api.ErrFull
	}
	before := -1
	for _, p := range s.Permits {
		if p.Op <= before || p.Op >= api.MaxOps {
			return api.ErrOrder
		}
		before = p.Op
	}
	for _, p := range s.Permits {
		if !isCrew(s, p.Who) || !exact.Within(p.Until, 0, maxUntil) {
			return api.ErrRange
		}
	}
	return api.OK
}

// hasOpen reports whether an operation goes on.
func hasOpen(s api.Site) bool {
	return slices.ContainsFunc(s.Permits, func(p api.Permit) bool { return p.Open })
}

// permitFor returns where the permit for an operation is, or should be, and whether there is one.
func permitFor(s api.Site, op int) (int, bool) {
	return slices.BinarySearchFunc(s.Permits, op, func(p api.Permit, op int) int { return cmp.Compare(p.Op, op) })
}

// Do returns a site after an entry.
func Do(s api.Site, e api.Entry) (api.Site, api.Errno) {
	if err := Check(s); err != api.OK {
		return api.Site{}, err
	}
	if !exact.Within(e.Tick, 0, api.MaxTick) {
		return api.Site{}, api.ErrRange
	}
	if e.Tick < s.Tick {
		return api.Site{}, api.ErrOrder
	}
	if !isCrew(s, e.Who) {
		return api.Site{}, api.ErrRange
	}
	act, ok := acts()[e.Kind]
	if !ok {
		return api.Site{}, api.ErrKind
	}
	next := Copy(s)
	if err := act(&next, e); err != api.OK {
		return api.Site{}, err
	}
	next.Tick = e.Tick
	next.Broken = since(s, next)
	return next, api.OK
}

// since returns since when an operation goes on without barriers, after an entry changed a site.
func since(before, after api.Site) int64 {
	if !hasOpen(after) || holds(after.House, after.Tick, after.Press) {
		return -1
	}
	if before.Broken != -1 {
		return before.Broken
	}
	if tick, ok := Lapse(before.House, before.Tick, before.Press); ok && hasOpen(before) && tick <= after.Tick {
		return tick
	}
	return after.Tick
}

// Run does entries, one after the other, up to the first one that has an error.
func Run(s api.Site, l []api.Entry) (api.Site, int, api.Errno) {
	if e := Check(s); e != api.OK {
		return api.Site{}, 0, e
	}
	if len(l) > api.MaxEntries {
		return api.Site{}, 0, api.ErrFull
	}
	now := Copy(s)
	for i, x := range l {
		next, e := Do(now, x)
		if e != api.OK {
			return now, i, e
		}
		now = next
	}
	return now, -1, api.OK
}

// Same reports whether two sites are equal in everything.
func Same(a, b api.Site) bool {
	if !slices.Equal(a.House.Elements, b.House.Elements) || a.House.Need != b.House.Need || !slices.Equal(a.Permits, b.Permits) {
		return false
	}
	if !slices.EqualFunc(a.House.Envelopes, b.House.Envelopes, func(x, y []int) bool { return slices.Equal(x, y) }) {
		return false
	}
	return a.Tick == b.Tick && a.Crew == b.Crew && a.Holder == b.Holder && a.Offer == b.Offer && a.Press == b.Press && a.Broken == b.Broken
}

// Copy returns an equal site that shares no memory.
func Copy(s api.Site) api.Site {
	s.House.Elements, s.House.Envelopes, s.Permits = slices.Clone(s.House.Elements), slices.Clone(s.House.Envelopes), slices.Clone(s.Permits)
	for i, envelope := range s.House.Envelopes {
		s.House.Envelopes[i] = slices.Clone(envelope)
	}
	return s
}
