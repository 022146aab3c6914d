package path

import "moonpool/api"

// zonotope is the set of all sums of its centre and of its generators, each of these times a number from -1 to 1.
type zonotope struct {
	centre     vec
	generators []vec
}

// add adds a generator; one of 0 changes nothing.
func (z *zonotope) add(g vec) {
	if g != (vec{}) {
		z.generators = append(z.generators, g)
	}
}

// addBox adds the generators of a box.
func (z *zonotope) addBox(r int64) {
	z.add(vec{X: r})
	z.add(vec{Y: r})
	z.add(vec{Z: r})
}

// addDifferences adds for each source of two paths what it does to the one less what it does to the other, because it is the same error in both.
func (z *zonotope) addDifferences(la, lb []api.Source, ofA, ofB func(api.Source) vec) {
	for _, s := range la {
		d := ofA(s)
		if k := find(lb, s.ID); k >= 0 {
			d = d.minus(ofB(lb[k]))
		}
		z.add(d)
	}
	for _, s := range lb {
		if find(la, s.ID) < 0 {
			z.add(ofB(s))
		}
	}
}

// find returns where the source with an ID is, -1 if it is nowhere.
func find(l []api.Source, id int) int {
	for i, s := range l {
		if s.ID == id {
			return i
		}
	}
	return -1
}

// hasOrigin reports whether 0 is in a zonotope that has a box in it. Each of its faces is then at right angles to two of its generators, and 0 is outside only if it is beyond a face.
func (z *zonotope) hasOrigin() bool {
	for i, g := range z.generators {
		for _, h := range z.generators[:i] {
			if z.isBeyond(g.cross(h)) {
				return false
			}
		}
	}
	return true
}

// isBeyond reports whether, along the direction n, 0 is farther from the centre than any place of the zonotope.
func (z *zonotope) isBeyond(n vec) bool {
	reach := int64(0)
	for _, g := range z.generators {
		reach += magnitude(n.dot(g))
	}
	return magnitude(n.dot(z.centre)) > reach
}
