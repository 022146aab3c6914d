package path

import (
	"sort"

	"moonpool/api"
)

// CheckSources returns the error of a path, or the first one of its sources.
func CheckSources(p api.Path, l []api.Source) api.Errno {
	if e := Check(p); e != api.OK {
		return e
	}
	if len(l) > api.MaxSource {
		return api.ErrFull
	}
	// The order of the IDs is named before the vectors, and is about the whole list.
	if !ascending(l) {
		return api.ErrOrder
	}
	for _, s := range l {
		if e := checkVectors(s, len(p.Legs)); e != api.OK {
			return e
		}
	}
	return api.OK
}

// ascending reports whether the IDs of sources are strictly ascending, from 1 to 99.
func ascending(l []api.Source) bool {
	before := 0
	for _, s := range l {
		if s.ID <= before || s.ID > 99 {
			return false
		}
		before = s.ID
	}
	return true
}

// checkVectors returns the error of the vectors of one source, for a path with so many legs.
func checkVectors(s api.Source, legs int) api.Errno {
	if len(s.Per) != legs {
		return api.ErrForm
	}
	for _, d := range s.Per {
		if !vec(d).within(-api.MaxShift, api.MaxShift) {
			return api.ErrRange
		}
	}
	return api.OK
}

// shift returns by how much a source displaces a joint.
func shift(s api.Source, joint int) vec {
	var sum vec
	for _, d := range s.Per[:joint] {
		sum = sum.plus(vec(d))
	}
	return sum
}

// hasJoint reports whether a path has a joint.
func hasJoint(p api.Path, joint int) bool { return joint >= 0 && joint <= len(p.Legs) }

// joint returns the place of a joint.
func joint(p api.Path, i int) vec {
	at := vec(p.From)
	for _, leg := range p.Legs[:i] {
		at = at.plus(vec(leg))
	}
	return at
}

// Shifts returns the shift of each source at a joint.
func Shifts(p api.Path, l []api.Source, joint int) []api.Vec {
	if CheckSources(p, l) != api.OK || !hasJoint(p, joint) {
		return nil
	}
	var shifts []api.Vec
	for _, s := range l {
		shifts = append(shifts, api.Vec(shift(s, joint)))
	}
	return shifts
}

// Where returns the least box that has all possible places of a joint.
func Where(p api.Path, l []api.Source, i int) (api.Box, api.Errno) {
	if e := checkJoint(p, l, i); e != api.OK {
		return api.Box{}, e
	}
	var reach vec
	for _, s := range l {
		reach = reach.plus(shift(s, i).magnitudes())
	}
	at := joint(p, i)
	return api.Box{Lo: api.Vec(at.minus(reach)), Hi: api.Vec(at.plus(reach))}, api.OK
}

// checkJoint returns the error of sources, or of a joint that there is not.
func checkJoint(p api.Path, l []api.Source, i int) api.Errno {
	if e := CheckSources(p, l); e != api.OK {
		return e
	}
	if !hasJoint(p, i) {
		return api.ErrMissing
	}
	return api.OK
}

// Actual returns a thousand times the place of a joint, for coefficients in thousandths.
func Actual(p api.Path, l []api.Source, c []int64, i int) (api.Vec, api.Errno) {
	if e := checkJoint(p, l, i); e != api.OK {
		return api.Vec{}, e
	}
	if len(c) < len(l) {
		return api.Vec{}, api.ErrShort
	}
	at := joint(p, i).times(1000)
	for k, s := range l {
		if c[k] < -1000 || c[k] > 1000 {
			return api.Vec{}, api.ErrRange
		}
		at = at.plus(shift(s, i).times(c[k]))
	}
	return api.Vec(at), api.OK
}

// survey is a valid path with its valid sources.
type survey struct {
	path    api.Path
	sources []api.Source
}

func (s survey) valid() bool { return CheckSources(s.path, s.sources) == api.OK }

// Touches reports whether two joints can touch within a radius.
func Touches(a api.Path, la []api.Source, i int, b api.Path, lb []api.Source, j int, r int64) bool {
	x, y := survey{a, la}, survey{b, lb}
	if !x.valid() || !y.valid() || !hasJoint(a, i) || !hasJoint(b, j) || !isRadius(r) {
		return false
	}
	return touch(x, i, y, j, r)
}

// Separate reports whether two legs stay apart by more than a radius, for all errors.
func Separate(a api.Path, la []api.Source, i int, b api.Path, lb []api.Source, j int, r int64) bool {
	x, y := survey{a, la}, survey{b, lb}
	if !x.valid() || !y.valid() || i < 0 || i >= len(a.Legs) || j < 0 || j >= len(b.Legs) || !isRadius(r) {
		return false
	}
	return apart(x, i, y, j, r)
}

func isRadius(r int64) bool { return r >= 1 && r <= api.MaxRadius }

// touch is Touches for valid arguments.
func touch(a survey, i int, b survey, j int, r int64) bool {
	z := zonotope{centre: joint(a.path, i).minus(joint(b.path, j))}
	z.addBox(r)
	z.addDifferences(a.sources, b.sources, func(s api.Source) vec { return shift(s, i) }, func(s api.Source) vec { return shift(s, j) })
	return z.hasOrigin()
}

// apart is Separate for valid arguments. All is doubled, so that the middles of legs are whole.
func apart(a survey, i int, b survey, j int, r int64) bool {
	v, w := vec(a.path.Legs[i]), vec(b.path.Legs[j])
	z := zonotope{centre: joint(a.path, i).times(2).plus(v).minus(joint(b.path, j).times(2).plus(w))}
	z.add(v)
	z.add(w)
	z.addBox(2 * r)
	middle := func(leg int) func(api.Source) vec {
		return func(s api.Source) vec { return shift(s, leg).plus(shift(s, leg+1)) }
	}
	z.addDifferences(a.sources, b.sources, middle(i), middle(j))
	for _, s := range a.sources {
		z.add(vec(s.Per[i]))
	}
	for _, s := range b.sources {
		z.add(vec(s.Per[j]))
	}
	return !z.hasOrigin()
}

// allApart reports whether each leg of one path is separate from each leg of another one.
func allApart(a, b survey, r int64) bool {
	for i := range a.path.Legs {
		for j := range b.path.Legs {
			if !apart(a, i, b, j, r) {
				return false
			}
		}
	}
	return true
}

// someTouch reports whether some joints of two paths can touch.
func someTouch(a, b survey, r int64) bool {
	for i := range len(a.path.Legs) + 1 {
		for j := range len(b.path.Legs) + 1 {
			if touch(a, i, b, j, r) {
				return true
			}
		}
	}
	return false
}

// Known returns what is known of the distance of two paths.
func Known(a api.Path, la []api.Source, b api.Path, lb []api.Source, r int64) (int, api.Errno) {
	if e := checkPair(a, la, b, lb); e != api.OK {
		return 0, e
	}
	if !isRadius(r) {
		return 0, api.ErrRange
	}
	x, y := survey{a, la}, survey{b, lb}
	if someTouch(x, y, r) {
		return api.Touch, api.OK
	}
	if allApart(x, y, r) {
		return api.Clear, api.OK
	}
	return api.Open, api.OK
}

// checkPair returns the first error of two paths with their sources.
func checkPair(a api.Path, la []api.Source, b api.Path, lb []api.Source) api.Errno {
	if e := CheckSources(a, la); e != api.OK {
		return e
	}
	return CheckSources(b, lb)
}

// Gap returns the greatest radius for which all legs of two paths are separate.
func Gap(a api.Path, la []api.Source, b api.Path, lb []api.Source) (int64, api.Errno) {
	if e := checkPair(a, la, b, lb); e != api.OK {
		return 0, e
	}
	x, y := survey{a, la}, survey{b, lb}
	// Legs that are not separate within a radius are not so within a greater one.
	n := sort.Search(api.MaxRadius, func(k int) bool { return !allApart(x, y, int64(k)+1) })
	return int64(n), api.OK
}
