package earth

import "moonpool/api"

// fold goes through points and joins what the closure makes of each of them.
func fold[P any](points []P, start int64, join func(int64, P) int64) int64 {
	for _, p := range points {
		start = join(start, p)
	}
	return start
}

// points returns the knots of a line down to the bottom of an earth, and the reports of a kind.
func points(e api.Earth, l api.Line, kind int) []api.Knot {
	var all []api.Knot
	for _, k := range l.Knots {
		if k.At <= e.Bottom {
			all = append(all, k)
		}
	}
	for _, r := range e.Reports {
		if r.Kind == kind {
			all = append(all, api.Knot{At: r.Z, V: r.P})
		}
	}
	return all
}

// most returns the greatest pressure at z that a line and its upper points allow.
func most(e api.Earth, l api.Line, kind int, z int64) int64 {
	return fold(points(e, l, kind), valueAt(l, z).Hi, func(bound int64, k api.Knot) int64 {
		if z >= k.At {
			return min(bound, k.V+e.GHi*(z-k.At))
		}
		return min(bound, k.V-e.GLo*(k.At-z))
	})
}

// least returns the least pressure at z that a line and its lower points ask for.
func least(e api.Earth, l api.Line, kind int, z int64) int64 {
	return fold(points(e, l, kind), max(0, valueAt(l, z).Lo), func(bound int64, k api.Knot) int64 {
		if z >= k.At {
			return max(bound, k.V+e.GLo*(z-k.At))
		}
		return max(bound, k.V-e.GHi*(k.At-z))
	})
}

// pore is Pore for a valid earth and one of its depths. What bounds the fracture pressure from above bounds the pore pressure, too.
func pore(e api.Earth, z int64) api.Range {
	return api.Range{
		Lo: least(e, e.PoreLo, influx, z),
		Hi: min(most(e, e.PoreHi, dry, z), most(e, e.FracHi, leak, z)),
	}
}

// frac is Frac for a valid earth and one of its depths.
func frac(e api.Earth, z int64) api.Range {
	return api.Range{
		Lo: max(least(e, e.FracLo, held, z), least(e, e.PoreLo, influx, z)),
		Hi: most(e, e.FracHi, leak, z),
	}
}

// contradicts reports whether a valid earth contradicts itself if it has these reports alone.
func contradicts(e api.Earth, reports ...api.Report) bool {
	e.Reports = reports
	for _, z := range depths(e) {
		p, f := pore(e, z), frac(e, z)
		if p.Lo > p.Hi || f.Lo > f.Hi {
			return true
		}
	}
	return false
}

// Conflicts returns all sets of reports that conflict. None has more than two, because at a depth one point bounds a pressure from above, and one from below.
func Conflicts(e api.Earth) [][]int {
	if Check(e) != api.OK {
		return nil
	}
	if contradicts(e) {
		return [][]int{{}}
	}
	var sets [][]int
	alone := make([]bool, len(e.Reports))
	for i, r := range e.Reports {
		if contradicts(e, r) {
			alone[i] = true
			sets = append(sets, []int{i})
		}
	}
pairs:
	for i, r := range e.Reports {
		for j := i + 1; j < len(e.Reports); j++ {
			if alone[i] {
				continue pairs
			}
			if !alone[j] && contradicts(e, r, e.Reports[j]) {
				sets = append(sets, []int{i, j})
			}
		}
	}
	return sets
}
