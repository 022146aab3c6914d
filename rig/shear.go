package rig

import (
	"moonpool/api"
	"moonpool/pipe"
)

// checkShear returns the first error of the numbers of a shear ram.
func checkShear(x api.Ram, hoist, places, ram int, closed api.Span) api.Errno {
	if x.Faces < 0 || x.Faces > api.MaxDepth || x.Step < 1 || x.Step > 4000 || x.Near < 0 || x.Near > 100 {
		return api.ErrRange
	}
	if hoist < 0 || hoist >= api.MaxMachines || ram < 0 || ram >= api.MaxMachines || hoist == ram {
		return api.ErrOrder
	}
	if places < 2 || places > api.MaxPlaces || !isSpan(closed.Lo, closed.Hi, api.MaxPlaces) {
		return api.ErrRange
	}
	return api.OK
}

// Shear returns the bans that keep a shear ram open while a joint of the string is in it.
func Shear(x api.Ram, s api.String, hoist, places, ram int, closed api.Span) ([]api.Ban, api.Errno) {
	if e := pipe.Check(s); e != api.OK {
		return nil, e
	}
	if e := checkShear(x, hoist, places, ram, closed); e != api.OK {
		return nil, e
	}
	var bans []api.Ban
	begin := -1 // of the row of places that is open
	for h := range places + 1 {
		faces := x.Faces - int64(h)*x.Step
		near := h < places && pipe.Near(s, faces-x.Near, faces+x.Near)
		if near && begin < 0 {
			begin = h
		}
		if !near && begin >= 0 {
			bans = append(bans, keepOpen(hoist, api.Span{Lo: begin, Hi: h - 1}, ram, closed))
			begin = -1
		}
	}
	return bans, api.OK
}

// keepOpen returns the ban of the places of a ram with those of the hoist.
func keepOpen(hoist int, row api.Span, ram int, closed api.Span) api.Ban {
	if hoist < ram {
		return api.Ban{A: hoist, ALo: row.Lo, AHi: row.Hi, B: ram, BLo: closed.Lo, BHi: closed.Hi}
	}
	return api.Ban{A: ram, ALo: closed.Lo, AHi: closed.Hi, B: hoist, BLo: row.Lo, BHi: row.Hi}
}
