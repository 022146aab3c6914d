package path

import (
	"moonpool/api"
	"moonpool/exact"
)

// vec is a vector with the arithmetic that this package needs.
type vec api.Vec

func (v vec) plus(w vec) vec { return vec{v.X + w.X, v.Y + w.Y, v.Z + w.Z} }

func (v vec) minus(w vec) vec { return vec{v.X - w.X, v.Y - w.Y, v.Z - w.Z} }

func (v vec) times(n int64) vec { return vec{v.X * n, v.Y * n, v.Z * n} }

func (v vec) dot(w vec) int64 { return v.X*w.X + v.Y*w.Y + v.Z*w.Z }

// cross returns a vector that is at right angles to both.
func (v vec) cross(w vec) vec {
	return vec{v.Y*w.Z - v.Z*w.Y, v.Z*w.X - v.X*w.Z, v.X*w.Y - v.Y*w.X}
}

// share returns the part n / d of a vector, each component rounded down.
func (v vec) share(n, d int64) vec {
	return vec{exact.Down(v.X*n, d), exact.Down(v.Y*n, d), exact.Down(v.Z*n, d)}
}

// magnitudes returns the vector of the components without their signs.
func (v vec) magnitudes() vec { return vec{magnitude(v.X), magnitude(v.Y), magnitude(v.Z)} }

// within reports whether all components are from lo to hi.
func (v vec) within(lo, hi int64) bool {
	return v.inBox(vec{lo, lo, lo}, vec{hi, hi, hi})
}

// inBox reports whether a place lies between two corners.
func (v vec) inBox(lo, hi vec) bool {
	return lo.X <= v.X && v.X <= hi.X && lo.Y <= v.Y && v.Y <= hi.Y && lo.Z <= v.Z && v.Z <= hi.Z
}

// isPlace reports whether a place is valid.
func (v vec) isPlace() bool {
	return v.inBox(vec{-api.MaxPlace, -api.MaxPlace, 0}, vec{api.MaxPlace, api.MaxPlace, api.MaxPlace})
}

func magnitude(n int64) int64 { return max(n, -n) }
