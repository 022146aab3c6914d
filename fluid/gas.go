package fluid

import (
	"moonpool/api"
	"moonpool/exact"
)

// solvent is the pressure for each of which a gas dissolves by its Power once more.
const solvent = 1 << 20

// isGas reports whether the numbers of a gas are in their ranges.
func isGas(g api.Gas) bool {
	return g.K >= 0 && g.K <= api.MaxK && g.Power >= 0 && g.Power <= api.MaxPower
}

// hasFree reports whether there is a free amount of a gas at a pressure.
func hasFree(g api.Gas, p int64) bool { return isGas(g) && p >= 1 && p <= api.MaxPress }

// Free returns the free amount of a gas at a pressure.
func Free(g api.Gas, p int64) int64 {
	if !hasFree(g, p) {
		return 0
	}
	return max(0, g.K-g.Power*(p/solvent))
}

// Space returns the enclosure of the volume that the free amount takes up.
func Space(g api.Gas, p int64) api.Range {
	if !hasFree(g, p) {
		return api.Range{}
	}
	free := Free(g, p)
	return api.Range{Lo: exact.Down(free, p), Hi: exact.Up(free, p)}
}

// Bubble returns the bubble point of a gas.
func Bubble(g api.Gas) (int64, bool) {
	if !isGas(g) {
		return 0, false
	}
	p := first(1, int64(api.MaxPress), func(p int64) bool { return Free(g, p) == 0 })
	if p > api.MaxPress {
		return 0, false
	}
	return p, true
}
