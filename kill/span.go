package kill

import "moonpool/api"

// span is an enclosure with its arithmetic: each result has what any values of the enclosures can make.
type span api.Range

// exactly returns the enclosure of a whole number.
func exactly(n int64) span { return span{n, n} }

func (a span) minus(b span) span { return span{a.Lo - b.Hi, a.Hi - b.Lo} }

// times returns an enclosure times a number from 0 on.
func (a span) times(n int64) span { return span{a.Lo * n, a.Hi * n} }

// upward returns the part of an enclosure of a height that is not below 0.
func (a span) upward() span { return span{max(0, a.Lo), max(0, a.Hi)} }

// above says how certain it is that what is enclosed is greater than a limit: 0 if it is not, Broken if it is, otherwise Unsure.
func (a span) above(limit int64) int {
	switch {
	case a.Hi <= limit:
		return 0
	case a.Lo > limit:
		return api.Broken
	}
	return api.Unsure
}
