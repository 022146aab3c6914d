package fluid

import (
	"math/bits"

	"moonpool/api"
	"moonpool/exact"
)

// great is a number of two words.
type great struct {
	high, low uint64
}

// product returns the product of two numbers from 0 on.
func product(a, b int64) great {
	high, low := bits.Mul64(uint64(a), uint64(b))
	return great{high, low}
}

// atLeast reports whether a number is not less than another one.
func (g great) atLeast(h great) bool {
	return g == h || g.high > h.high || g.high == h.high && g.low > h.low
}

// canFlow reports whether a mud, a flow and a segment have numbers in their ranges.
func canFlow(s api.Seg, m api.Mud, flow int64) bool {
	return isSeg(s) && m.Yield >= 0 && m.Yield <= api.MaxYield && m.Visc >= 1 && m.Visc <= api.MaxVisc && isFlow(flow)
}

func isFlow(flow int64) bool { return flow >= 0 && flow <= api.MaxFlow }

// flows is Flows for numbers in their ranges.
func flows(s api.Seg, m api.Mud, g, flow int64) bool {
	t := g * s.Gap
	if flow == 0 || t <= m.Yield {
		return flow == 0
	}
	// 2 t^3 - 3 y t^2 + y^3 is (t - y)^2 (2 t + y), so that both sides are products of two numbers of 64 bits.
	over := t - m.Yield
	return product(over*over, (2*t+m.Yield)*s.Gap*s.Area).atLeast(product(flow*m.Visc, t*t))
}

// Flows reports whether a mud flows at least so much under a gradient.
func Flows(s api.Seg, m api.Mud, g, flow int64) bool {
	return canFlow(s, m, flow) && g >= 0 && g <= api.MaxGradient && flows(s, m, g, flow)
}

// whole is what a bisection can be over.
type whole interface {
	~int | ~int64
}

// first returns the least number from low to high of which a predicate is true, if it is so of all greater ones; high + 1 if there is none.
func first[T whole](low, high T, is func(T) bool) T {
	high++
	for low < high {
		mid := low + (high-low)/2
		if is(mid) {
			high = mid
		} else {
			low = mid + 1
		}
	}
	return low
}

// Gradient returns the gradient of a flow.
func Gradient(s api.Seg, m api.Mud, flow int64) (int64, bool) {
	if !canFlow(s, m, flow) {
		return 0, false
	}
	g := first(0, int64(api.MaxGradient), func(g int64) bool { return flows(s, m, g, flow) })
	if g > api.MaxGradient {
		return 0, false
	}
	return g, true
}

// Loss returns the enclosure of the pressure that a flow loses above a place.
func Loss(h api.Hole, m api.Mud, flow, u int64) (api.Range, bool) {
	if CheckHole(h) != api.OK || u < 0 || u > Volume(h) {
		return api.Range{}, false
	}
	where := Where(h, u)
	var sum api.Range
	for i, p := range parts(h) {
		g, ok := Gradient(p.seg, m, flow)
		if !ok {
			return api.Range{}, false
		}
		if i < where {
			continue
		}
		// The length above a place is Long (to - u) / (to - from), and to - from is Long times Area.
		above := p.to - max(u, p.from)
		sum.Lo += g * exact.Down(above, p.seg.Area)
		sum.Hi += g * exact.Up(above, p.seg.Area)
	}
	return sum, true
}

// Load returns how many thousandths of what flows are cuttings.
func Load(s api.Seg, feed, flow, slip int64) (int64, bool) {
	if !isSeg(s) || !isFlow(feed) || !isFlow(flow) || slip < 0 || slip > 1000 {
		return 0, false
	}
	rises := flow - slip*s.Area
	if rises <= 0 {
		return 0, false
	}
	return min(1000, exact.Up(1000*feed, rises)), true
}

// Mixed returns the weight of a mud with a load.
func Mixed(weight, rock, load int64) int64 {
	if !isWeight(weight) || !isWeight(rock) || load < 0 || load > 1000 {
		return 0
	}
	return weight + exact.Up((rock-weight)*load, 1000)
}
