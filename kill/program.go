package kill

import (
	"moonpool/api"
	"moonpool/earth"
	"moonpool/exact"
)

// bore is a valid well with the lengths that follow from it.
type bore struct {
	api.Well
	heights api.Line
	volume  int64
	height  int64
}

// at returns the enclosure of the height of a place; what is above the top counts as the top.
func (w bore) at(place int64) span { return span(earth.At(w.heights, place)) }

// state is what is in a well at a moment: the gas, the pressures below it and at the choke, and that at each place.
type state struct {
	gas, base, surface span
	press              func(place int64) span
}

// program is a kind of program: what is in the well if so much was pumped, with a pressure at the bottom.
type program interface {
	state(w bore, k api.Bubble, bottom, pumped int64) state
}

// driller circulates the gas out with the mud that is in the well.
type driller struct{}

// waiter circulates it out with kill mud.
type waiter struct {
	weight int64
}

// bull pushes it back into the rock with kill mud.
type bull struct {
	weight int64
}

// programOf returns the implementation of a valid program.
func programOf(p api.Program) program {
	switch p.Kind {
	case api.KillDriller:
		return driller{}
	case api.KillWait:
		return waiter{p.Weight}
	}
	return bull{p.Weight}
}

// isOver reports whether a program is over: the gas may be at the choke, or is back in the rock.
func isOver(p program, w bore, pumped int64, gas span) bool {
	switch p.(type) {
	case bull:
		return gas.Hi == 0
	default:
		return pumped+gas.Hi >= w.volume
	}
}

// volume returns the enclosure of the volume of the gas of a kick at a pressure.
func volume(k api.Bubble, p span) span {
	amount := k.Volume * k.Pore
	return span{exact.Down(amount, max(1, p.Hi)), exact.Up(amount, max(1, p.Lo))}
}

func (driller) state(w bore, k api.Bubble, bottom, pumped int64) state {
	return circulate(w, k, bottom, pumped, 0, 0)
}

func (x waiter) state(w bore, k api.Bubble, bottom, pumped int64) state {
	return circulate(w, k, bottom, pumped, max(0, min(pumped, w.volume)-w.Pipe), x.weight)
}

// circulate returns what is in a well in which gas rises on what is pumped: kill mud up to a place, and mud from there.
func circulate(w bore, k api.Bubble, bottom, pumped, clean, weight int64) state {
	kill := w.at(clean)
	over := func(height span) span {
		return exactly(bottom).minus(kill.times(weight)).minus(height.minus(kill).upward().times(w.Weight))
	}
	s := state{base: over(w.at(pumped))}
	s.gas = volume(k, s.base)
	tops := span{w.at(pumped + s.gas.Lo).Lo, w.at(pumped + s.gas.Hi).Hi}
	above := func(height span) span {
		return s.base.minus(height.minus(tops).upward().times(w.Weight))
	}
	s.surface = above(w.at(w.volume))
	s.press = func(place int64) span {
		switch x := w.at(place); {
		case place <= clean:
			return exactly(bottom).minus(x.times(weight))
		case place <= pumped:
			return over(x)
		default:
			return above(x)
		}
	}
	return s
}

func (x bull) state(w bore, k api.Bubble, bottom, pumped int64) state {
	s := state{base: exactly(bottom)}
	s.gas = volume(k, s.base).minus(exactly(pumped)).upward()
	tops := span{w.at(s.gas.Lo).Lo, w.at(s.gas.Hi).Hi}
	end := max(0, w.volume-pumped)
	s.press = func(place int64) span {
		mud := w.at(min(place, end)).minus(tops).upward()
		kill := w.at(place).minus(w.at(end)).upward()
		return s.base.minus(mud.times(w.Weight)).minus(kill.times(x.weight))
	}
	s.surface = s.press(w.volume)
	return s
}
