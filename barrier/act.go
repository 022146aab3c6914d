package barrier

import (
	"slices"

	"moonpool/api"
	"moonpool/exact"
)

// act changes a site by an entry, or returns why it must not.
type act func(*api.Site, api.Entry) api.Errno

// acts returns what entries do, by their kinds.
func acts() map[int]act {
	return map[int]act{
		api.EntryInstall: install,
		api.EntryTest:    test,
		api.EntryFail:    fail,
		api.EntryRemove:  remove,
		api.EntryPress:   press,
		api.EntryOffer:   offer,
		api.EntryTake:    take,
		api.EntryPermit:  permit,
		api.EntryStart:   start,
		api.EntryStop:    stop,
	}
}

// isElement reports whether a site has an element.
func isElement(s *api.Site, n int) bool { return n >= 0 && n < len(s.House.Elements) }

// isThere reports whether an element can be tested, or can fail.
func isThere(x api.Element) bool { return x.State == api.Untested || x.State == api.Sound }

// isBare reports whether an operation goes on, and the rule does not hold against a pressure at a tick.
func isBare(s *api.Site, tick, press int64) bool {
	return hasOpen(*s) && !holds(s.House, tick, press)
}

func install(s *api.Site, e api.Entry) api.Errno {
	if !isElement(s, e.At) {
		return api.ErrRange
	}
	if x := s.House.Elements[e.At]; x.State != api.Absent && x.State != api.Failed {
		return api.ErrState
	}
	s.House.Elements[e.At] = api.Element{State: api.Untested}
	return api.OK
}

func test(s *api.Site, e api.Entry) api.Errno {
	if !isElement(s, e.At) || !exact.Within(e.N, 1, api.MaxPress) || !exact.Within(int64(e.To), 1, api.MaxValid) {
		return api.ErrRange
	}
	if !isThere(s.House.Elements[e.At]) {
		return api.ErrState
	}
	s.House.Elements[e.At] = api.Element{State: api.Sound, Bears: e.N, Tested: e.Tick, Until: e.Tick + int64(e.To)}
	return api.OK
}

func fail(s *api.Site, e api.Entry) api.Errno {
	if !isElement(s, e.At) {
		return api.ErrRange
	}
	if !isThere(s.House.Elements[e.At]) {
		return api.ErrState
	}
	s.House.Elements[e.At].State = api.Failed
	return api.OK
}

func remove(s *api.Site, e api.Entry) api.Errno {
	if !isElement(s, e.At) {
		return api.ErrRange
	}
	if s.House.Elements[e.At].State == api.Absent {
		return api.ErrState
	}
	s.House.Elements[e.At] = api.Element{}
	if isBare(s, e.Tick, s.Press) {
		return api.ErrBarrier
	}
	return api.OK
}

func press(s *api.Site, e api.Entry) api.Errno {
	if e.Who != s.Holder {
		return api.ErrState
	}
	if !exact.Within(e.N, 0, api.MaxPress) {
		return api.ErrRange
	}
	if isBare(s, e.Tick, e.N) {
		return api.ErrBarrier
	}
	s.Press = e.N
	return api.OK
}

func offer(s *api.Site, e api.Entry) api.Errno {
	if e.Who != s.Holder {
		return api.ErrState
	}
	if !isCrew(*s, e.To) || e.To == s.Holder {
		return api.ErrRange
	}
	s.Offer = e.To
	return api.OK
}

func take(s *api.Site, e api.Entry) api.Errno {
	if e.Who != s.Offer {
		return api.ErrState
	}
	s.Holder, s.Offer = e.Who, -1
	return api.OK
}

func permit(s *api.Site, e api.Entry) api.Errno {
	if e.Who != s.Holder {
		return api.ErrState
	}
	if e.At < 0 || e.At >= api.MaxOps || !isCrew(*s, e.To) || !exact.Within(e.N, e.Tick, maxUntil) {
		return api.ErrRange
	}
	p := api.Permit{Op: e.At, Who: e.To, Until: e.N}
	i, ok := permitFor(*s, e.At)
	if !ok {
		s.Permits = slices.Insert(s.Permits, i, p)
		return api.OK
	}
	if s.Permits[i].Open {
		return api.ErrExists
	}
	s.Permits[i] = p
	return api.OK
}

func start(s *api.Site, e api.Entry) api.Errno {
	i, ok := permitFor(*s, e.At)
	if !ok || s.Permits[i].Who != e.Who {
		return api.ErrMissing
	}
	if s.Permits[i].Open {
		return api.ErrExists
	}
	if e.Tick > s.Permits[i].Until {
		return api.ErrLate
	}
	if !holds(s.House, e.Tick, s.Press) {
		return api.ErrBarrier
	}
	s.Permits[i].Open = true
	return api.OK
}

func stop(s *api.Site, e api.Entry) api.Errno {
	i, ok := permitFor(*s, e.At)
	if !ok || !s.Permits[i].Open {
		return api.ErrMissing
	}
	if e.Who != s.Permits[i].Who && e.Who != s.Holder {
		return api.ErrState
	}
	s.Permits[i].Open = false
	return api.OK
}
