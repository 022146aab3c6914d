package barrier

import "moonpool/api"

// mark begins each log.
const mark = "mpl1"

// writer collects the bytes of a log.
type writer struct {
	bytes []byte
}

// put adds numbers, each as eight bytes.
func (w *writer) put(l ...int64) {
	for _, n := range l {
		for shift := 56; shift >= 0; shift -= 8 {
			w.bytes = append(w.bytes, byte(uint64(n)>>shift))
		}
	}
}

// count adds how many rows follow.
func (w *writer) count(n int) { w.put(int64(n)) }

// Log returns the log of a site and entries.
func Log(s api.Site, l []api.Entry) (string, api.Errno) {
	if e := Check(s); e != api.OK {
		return "", e
	}
	if len(l) > api.MaxEntries {
		return "", api.ErrFull
	}
	w := &writer{bytes: []byte(mark)}
	w.put(s.Tick, int64(s.Crew), int64(s.Holder), int64(s.Offer), s.Press)
	w.count(len(s.House.Elements))
	for _, x := range s.House.Elements {
		w.put(int64(x.State), x.Bears, x.Tested, x.Until)
	}
	w.count(len(s.House.Envelopes))
	for _, envelope := range s.House.Envelopes {
		w.count(len(envelope))
		for _, n := range envelope {
			w.put(int64(n))
		}
	}
	w.put(int64(s.House.Need))
	w.count(len(s.Permits))
	for _, p := range s.Permits {
		open := int64(0)
		if p.Open {
			open = 1
		}
		w.put(int64(p.Op), int64(p.Who), p.Until, open)
	}
	w.put(s.Broken)
	w.count(len(l))
	for _, e := range l {
		w.put(e.Tick, int64(e.Kind), int64(e.Who), int64(e.At), int64(e.To), e.N)
	}
	return string(w.bytes), api.OK
}

// reader goes through the numbers of a log; it is wrong once something is not as it must be in one.
type reader struct {
	rest  string
	wrong bool
}

// number returns the next number, 0 if there is none.
func (r *reader) number() int64 {
	if len(r.rest) < 8 {
		r.wrong = true
		return 0
	}
	n := uint64(0)
	for i := range 8 {
		n = n<<8 | uint64(r.rest[i])
	}
	r.rest = r.rest[8:]
	return int64(n)
}

// whole returns the next number as an int.
func (r *reader) whole() int { return int(r.number()) }

// flag returns the next number, which is 0 or 1.
func (r *reader) flag() bool {
	n := r.number()
	r.wrong = r.wrong || n < 0 || n > 1
	return n == 1
}

// rows reads how many rows follow, at most so many, and these.
func rows[T any](r *reader, most int64, read func(*reader) T) []T {
	n := r.number()
	if n < 0 || n > most {
		r.wrong = true
		return nil
	}
	var l []T
	for range n {
		l = append(l, read(r))
	}
	return l
}

func readElement(r *reader) api.Element {
	return api.Element{State: r.whole(), Bears: r.number(), Tested: r.number(), Until: r.number()}
}

func readEnvelope(r *reader) []int {
	return rows(r, api.MaxElements, func(r *reader) int { return r.whole() })
}

func readPermit(r *reader) api.Permit {
	return api.Permit{Op: r.whole(), Who: r.whole(), Until: r.number(), Open: r.flag()}
}

func readEntry(r *reader) api.Entry {
	return api.Entry{Tick: r.number(), Kind: r.whole(), Who: r.whole(), At: r.whole(), To: r.whole(), N: r.number()}
}

// readSite reads a site that may not be valid.
func readSite(r *reader) api.Site {
	s := api.Site{Tick: r.number(), Crew: r.whole(), Holder: r.whole(), Offer: r.whole(), Press: r.number()}
	s.House.Elements = rows(r, api.MaxElements, readElement)
	s.House.Envelopes = rows(r, api.MaxEnvelopes, readEnvelope)
	s.House.Need = r.whole()
	s.Permits = rows(r, api.MaxOps, readPermit)
	s.Broken = r.number()
	return s
}

// Read returns the site and the entries of a log.
func Read(b string) (api.Site, []api.Entry, api.Errno) {
	if len(b) < len(mark) || b[:len(mark)] != mark {
		return api.Site{}, nil, api.ErrForm
	}
	r := &reader{rest: b[len(mark):]}
	s := readSite(r)
	l := rows(r, api.MaxEntries, readEntry)
	if r.wrong || r.rest != "" || Check(s) != api.OK {
		return api.Site{}, nil, api.ErrForm
	}
	return s, l, api.OK
}

// Replay does the entries of a log.
func Replay(b string) (api.Site, int, api.Errno) {
	s, l, e := Read(b)
	if e != api.OK {
		return api.Site{}, 0, e
	}
	return Run(s, l)
}
