package kick

import (
	"moonpool/api"
	"moonpool/exact"
)

// The weights that tell what an influx is: up to the first one it is gas, from the second one on water, and oil between them.
const (
	gasMost    = 3500
	waterLeast = 9000
)

// isRange reports whether a range lies from least to most.
func isRange(r api.Range, least, most int64) bool {
	return least <= r.Lo && r.Lo <= r.Hi && r.Hi <= most
}

// checkShut returns the first error of what is read from a well that is shut in.
func checkShut(x api.Shut) api.Errno {
	if !exact.Within(x.Area, 1, 5000) || !exact.Within(x.Weight, 1, api.MaxWeight) || !exact.Within(x.Depth, 1, api.MaxDepth) ||
		!isRange(x.Pipe, 0, api.MaxPress) || !isRange(x.Casing, 0, api.MaxPress) || !isRange(x.Gain, x.Area, 1<<30) {
		return api.ErrRange
	}
	if x.Casing.Lo < x.Pipe.Hi {
		return api.ErrOrder
	}
	return api.OK
}

// Identify returns what an influx is.
func Identify(x api.Shut) (api.Ingress, api.Errno) {
	if e := checkShut(x); e != api.OK {
		return api.Ingress{}, e
	}
	column := x.Weight * x.Depth
	height := api.Range{Lo: exact.Down(x.Gain.Lo, x.Area), Hi: exact.Up(x.Gain.Hi, x.Area)}
	weight := api.Range{
		Lo: x.Weight - exact.Up(x.Casing.Hi-x.Pipe.Lo, height.Lo),
		Hi: x.Weight - exact.Down(x.Casing.Lo-x.Pipe.Hi, height.Hi),
	}
	return api.Ingress{
		Pore:   api.Range{Lo: x.Pipe.Lo + column, Hi: x.Pipe.Hi + column},
		Height: height,
		Weight: weight,
		Kind:   kindOf(weight),
	}, api.OK
}

// kindOf returns what an influx of a weight is.
func kindOf(weight api.Range) int {
	switch {
	case weight.Hi <= gasMost:
		return api.InfluxGas
	case weight.Lo >= waterLeast:
		return api.InfluxWater
	case weight.Lo > gasMost && weight.Hi < waterLeast:
		return api.InfluxOil
	}
	return api.InfluxOpen
}
