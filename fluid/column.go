package fluid

import (
	"moonpool/api"
	"moonpool/earth"
	"moonpool/exact"
)

// CheckColumn returns the first error of a column in a hole.
func CheckColumn(h api.Hole, l []api.Slug) api.Errno {
	if e := CheckHole(h); e != api.OK {
		return e
	}
	if len(l) == 0 {
		return api.ErrShort
	}
	if len(l) > api.MaxSlugs {
		return api.ErrFull
	}
	for _, s := range l {
		if !isWeight(s.Weight) || s.Volume < 1 {
			return api.ErrRange
		}
	}
	// What is left is counted downwards, because the sum may be greater than any int64.
	rest := Volume(h)
	for _, s := range l {
		if s.Volume > rest {
			return api.ErrLong
		}
		rest -= s.Volume
	}
	if rest > 0 {
		return api.ErrShort
	}
	return api.OK
}

func isWeight(w int64) bool { return w >= 0 && w <= api.MaxWeight }

// Plain returns a list of slugs in which neighbours differ in their weights.
func Plain(l []api.Slug) []api.Slug {
	var plain []api.Slug
	for _, s := range l {
		if s.Volume < 1 || s.Volume > api.MaxVolume {
			continue
		}
		if last := len(plain) - 1; last >= 0 && plain[last].Weight == s.Weight {
			plain[last].Volume += s.Volume
		} else {
			plain = append(plain, s)
		}
	}
	return plain
}

// Press returns the enclosure of the pressure at a place.
func Press(h api.Hole, l []api.Slug, top, u int64) (api.Range, api.Errno) {
	if e := CheckColumn(h, l); e != api.OK {
		return api.Range{}, e
	}
	if top < 0 || top > api.MaxPress || u < 0 || u > Volume(h) {
		return api.Range{}, api.ErrRange
	}
	heights := Height(h)
	sum := api.Range{Lo: top, Hi: top}
	// A height that counts negatively makes the pressure least at its Hi.
	add := func(weight int64, height api.Range) {
		if weight < 0 {
			height.Lo, height.Hi = height.Hi, height.Lo
		}
		sum.Lo += weight * height.Lo
		sum.Hi += weight * height.Hi
	}
	end, inside := Volume(h), l[len(l)-1].Weight
	add(inside, earth.At(heights, end))
	for i := len(l) - 1; i > 0; i-- {
		end -= l[i].Volume
		if end <= u {
			break
		}
		inside = l[i-1].Weight
		add(l[i-1].Weight-l[i].Weight, earth.At(heights, end))
	}
	add(-inside, earth.At(heights, u))
	return sum, api.OK
}

// Pump returns a column after a slug was pumped in at its bottom, and what came out at the top for it.
func Pump(h api.Hole, l []api.Slug, s api.Slug) (now, out []api.Slug, e api.Errno) {
	if e := CheckColumn(h, l); e != api.OK {
		return nil, nil, e
	}
	if !isWeight(s.Weight) || s.Volume < 1 || s.Volume > Volume(h) {
		return nil, nil, api.ErrRange
	}
	left := Volume(h) - s.Volume
	// keep returns how much of a volume stays in the hole below what has come out.
	keep := func(volume int64) int64 {
		stays := min(volume, left)
		left -= stays
		return stays
	}
	now = []api.Slug{s}
	for _, x := range l {
		stays := keep(x.Volume)
		now = append(now, api.Slug{Weight: x.Weight, Volume: stays})
		out = append(out, api.Slug{Weight: x.Weight, Volume: x.Volume - stays})
	}
	now, out = Plain(now), Plain(out)
	if len(now) > api.MaxSlugs {
		return nil, nil, api.ErrFull
	}
	return now, out, api.OK
}

// Equivalent returns the enclosure of the pressure at a place, divided by its depth.
func Equivalent(h api.Hole, l []api.Slug, top, u int64) (api.Range, api.Errno) {
	p, e := Press(h, l, top, u)
	if e != api.OK {
		return api.Range{}, e
	}
	heights := Height(h)
	full, here := heights.Knots[len(heights.Knots)-1].V, earth.At(heights, u)
	if full == here.Lo {
		return api.Range{}, api.ErrRange
	}
	return api.Range{
		Lo: exact.Down(max(0, p.Lo), full-here.Lo),
		Hi: exact.Up(max(0, p.Hi), max(1, full-here.Hi)),
	}, api.OK
}
