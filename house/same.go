package house

import (
	"slices"

	"moonpool/api"
	"moonpool/casing"
	"moonpool/earth"
)

// numbers returns all numbers of a phase that are not in parts of it that are compared as a whole.
func numbers(x api.Phase) [17]int64 {
	return [17]int64{
		x.Tick, x.Age, x.Shoe, x.To, x.Sea, x.Light, x.Weight, x.Top, x.Long, x.Area, x.Gap, x.Flow, x.Notice,
		x.Well.Weight, x.Well.Limit, x.Well.Pipe, x.Well.Step,
	}
}

// samePhase reports whether two phases are equal in everything.
func samePhase(a, b api.Phase) bool {
	return numbers(a) == numbers(b) && a.Mud == b.Mud && a.Kicks == b.Kicks && a.Program == b.Program && casing.Same(a.Job, b.Job) &&
		slices.Equal(a.Stack, b.Stack) && slices.Equal(a.Cased, b.Cased) && slices.Equal(a.Sensors, b.Sensors) &&
		slices.Equal(a.Well.Hole.Segs, b.Well.Hole.Segs) && slices.Equal(a.Well.Points, b.Well.Points) &&
		slices.Equal(a.Volumes, b.Volumes) && slices.Equal(a.Pores, b.Pores)
}

// Same reports whether two plans are equal in everything.
func Same(a, b api.Plan) bool {
	return earth.Same(a.Earth, b.Earth) && a.Grid == b.Grid && slices.EqualFunc(a.Phases, b.Phases, samePhase)
}

// copyPhase returns an equal phase that shares no memory.
func copyPhase(x api.Phase) api.Phase {
	x.Job = casing.Copy(x.Job)
	x.Stack, x.Cased, x.Sensors = slices.Clone(x.Stack), slices.Clone(x.Cased), slices.Clone(x.Sensors)
	x.Well.Hole.Segs, x.Well.Points = slices.Clone(x.Well.Hole.Segs), slices.Clone(x.Well.Points)
	x.Volumes, x.Pores = slices.Clone(x.Volumes), slices.Clone(x.Pores)
	return x
}

// Copy returns an equal plan that shares no memory.
func Copy(p api.Plan) api.Plan {
	c := api.Plan{Earth: earth.Copy(p.Earth), Grid: p.Grid}
	for _, x := range p.Phases {
		c.Phases = append(c.Phases, copyPhase(x))
	}
	return c
}
