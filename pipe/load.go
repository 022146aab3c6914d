package pipe

import (
	"moonpool/api"
	"moonpool/exact"
)

// CheckCase returns the error of a string, or the first one of a case.
func CheckCase(s api.String, c api.Case) api.Errno {
	if e := Check(s); e != api.OK {
		return e
	}
	if c.Mode != api.ModeUp && c.Mode != api.ModeDown && c.Mode != api.ModeSpin {
		return api.ErrKind
	}
	if !exact.Within(c.Mud, 0, api.MaxWeight) || c.Mu.Lo < 0 || c.Mu.Lo > c.Mu.Hi || c.Mu.Hi > api.MaxMu || !exact.Within(c.Bit, 0, 1<<40) {
		return api.ErrRange
	}
	for _, t := range s.Tubes {
		if Wet(t, c.Mud) <= 0 {
			return api.ErrState
		}
	}
	return api.OK
}

// load is what a string bears at a place: the enclosure that it has is that of the tension.
type load struct {
	api.Range
	torque api.Range
}

// inRange reports whether a tension is one that is computed with.
func (l load) inRange() bool { return l.Lo >= -api.MaxForce && l.Hi <= api.MaxForce }

// mode says how friction changes a load: that in a bend, and that along a piece.
type mode struct {
	bend func(l load, bend api.Range, mu api.Range, out int64) load
	rub  func(l load, friction api.Range, out int64) load
}

// modeOf returns how a case is loaded.
func modeOf(c api.Case) mode {
	switch c.Mode {
	case api.ModeUp:
		return mode{bend: bendUp, rub: rubUp}
	case api.ModeDown:
		return mode{bend: bendDown, rub: rubDown}
	}
	return mode{bend: bendSpin, rub: rubSpin}
}

// A bend b and a friction m are in millionths and thousandths.
const dragUnit = 1000000000

func lowerDrag(tension, m, b int64) int64 {
	drag, _ := exact.Scale(max(tension, -tension)*m, b, dragUnit)
	return drag
}

func upperDrag(tension, m, b int64) int64 {
	return exact.ScaleUp(max(tension, -tension)*m, b, dragUnit)
}

func bendUp(l load, bend, mu api.Range, out int64) load {
	l.Lo += lowerDrag(l.Lo, mu.Lo, bend.Lo)
	l.Hi += upperDrag(l.Hi, mu.Hi, bend.Hi)
	return l
}

func bendDown(l load, bend, mu api.Range, out int64) load {
	l.Lo -= upperDrag(l.Lo, mu.Hi, bend.Hi)
	l.Hi -= lowerDrag(l.Hi, mu.Lo, bend.Lo)
	return l
}

func bendSpin(l load, bend, mu api.Range, out int64) load {
	nearest := int64(0)
	if l.Lo > 0 || l.Hi < 0 {
		nearest = min(max(l.Lo, -l.Lo), max(l.Hi, -l.Hi))
	}
	farthest := max(l.Lo, -l.Lo, l.Hi, -l.Hi)
	return rubSpin(l, api.Range{Lo: lowerDrag(nearest, mu.Lo, bend.Lo), Hi: upperDrag(farthest, mu.Hi, bend.Hi)}, out)
}

func rubUp(l load, friction api.Range, out int64) load {
	l.Lo += friction.Lo
	l.Hi += friction.Hi
	return l
}

func rubDown(l load, friction api.Range, out int64) load {
	l.Lo -= friction.Hi
	l.Hi -= friction.Lo
	return l
}

func rubSpin(l load, friction api.Range, out int64) load {
	l.torque.Lo += exact.Down(friction.Lo*out, 2)
	l.torque.Hi += exact.Up(friction.Hi*out, 2)
	return l
}

// borne is a piece with the loads below it, after the drag of the bend there, and above it.
type borne struct {
	piece         api.Piece
	tube          api.Tube
	sideways      int64 // how much of the wet weight of a centimetre presses against the wall, rounded down
	before, after load
}

// bears returns what each piece of a string bears.
func bears(s api.String, p api.Path, c api.Case) ([]borne, api.Errno) {
	if e := Fits(s, p); e != api.OK {
		return nil, e
	}
	if e := CheckCase(s, c); e != api.OK {
		return nil, e
	}
	m := modeOf(c)
	now := load{Range: api.Range{Lo: -c.Bit, Hi: -c.Bit}}
	if c.Mode == api.ModeUp {
		now.Range = api.Range{Lo: c.Bit, Hi: c.Bit}
	}
	var l []borne
	for x := range pieces(s, p) {
		b := borne{piece: x, tube: s.Tubes[x.Tube]}
		if len(l) > 0 && l[len(l)-1].piece.Leg != x.Leg {
			now = m.bend(now, Bend(p.Legs[x.Leg], p.Legs[x.Leg+1]), c.Mu, b.tube.Out)
		}
		b.before = now
		good := now.inRange()
		wet, long := Wet(b.tube, c.Mud), legLength(p.Legs[x.Leg])
		weight, side := wet*(x.To-x.From), Side(p.Legs[x.Leg])
		b.sideways = exact.Down(wet*side.Lo, long)
		now.Lo += exact.Down(weight*p.Legs[x.Leg].Z, long)
		now.Hi += exact.Up(weight*p.Legs[x.Leg].Z, long)
		good = good && now.inRange()
		now = m.rub(now, api.Range{
			Lo: exact.Down(exact.Down(weight*side.Lo, long)*c.Mu.Lo, 1000),
			Hi: exact.Up(exact.Up(weight*side.Hi, long)*c.Mu.Hi, 1000),
		}, b.tube.Out)
		if !good || !now.inRange() {
			return nil, api.ErrRange
		}
		b.after = now
		l = append(l, b)
	}
	return l, api.OK
}

// legLength returns the length of a leg of a valid path.
func legLength(v api.Vec) int64 { return exact.Root(v.X*v.X + v.Y*v.Y + v.Z*v.Z) }

// Loads returns the load after each piece of a string.
func Loads(s api.String, p api.Path, c api.Case) ([]api.Hang, api.Errno) {
	all, e := bears(s, p, c)
	if e != api.OK {
		return nil, e
	}
	var l []api.Hang
	for _, b := range all {
		l = append(l, api.Hang{At: b.piece.From, Tension: b.after.Range, Torque: b.after.torque})
	}
	return l, api.OK
}

// Strong reports whether a string bears its loads, or the first piece that does not.
func Strong(s api.String, p api.Path, c api.Case) (bool, int, api.Errno) {
	all, e := bears(s, p, c)
	if e != api.OK {
		return false, 0, e
	}
	for i, b := range all {
		if b.after.Hi > b.tube.Yield || b.after.torque.Hi > b.tube.Twist {
			return false, i, api.OK
		}
	}
	return true, -1, api.OK
}

// Buckles returns the pieces of a string that can buckle in a hole of a diameter.
func Buckles(s api.String, p api.Path, c api.Case, hole int64) ([]int, api.Errno) {
	all, e := bears(s, p, c)
	if e != api.OK {
		return nil, e
	}
	for _, t := range s.Tubes {
		if hole <= t.Out || hole > 200 {
			return nil, api.ErrRange
		}
	}
	var l []int
	for i, b := range all {
		critical := 1000 * exact.Root(8*b.tube.Stiff*b.sideways/(hole-b.tube.Out))
		if min(b.before.Lo, b.after.Lo) < -critical {
			l = append(l, i)
		}
	}
	return l, api.OK
}
