package house_test

import (
	"slices"
	"testing"

	"moonpool/api"
	"moonpool/earth"
	"moonpool/house"
	"moonpool/kick"
	"moonpool/kill"
)

// line makes a line from pairs of numbers.
func line(l ...int64) api.Line {
	var x api.Line
	for i := 0; i+1 < len(l); i += 2 {
		x.Knots = append(x.Knots, api.Knot{At: l[i], V: l[i+1]})
	}
	return x
}

func span(lo, hi int64) api.Range { return api.Range{Lo: lo, Hi: hi} }

// known is the earth of the document's examples.
func known() api.Earth {
	return api.Earth{
		Bottom: 100000, GHi: 40000,
		PoreLo: line(0, 0), PoreHi: line(0, 0, 100000, 1200000000), FracLo: line(0, 300000000, 100000, 1500000000), FracHi: line(0, 4000000000),
	}
}

// phase is the phase of the document's examples: from the shoe at 20,000 to 100,000.
func phase() api.Phase {
	held := []api.Test{{P: 500000000, Held: true, Tick: 90}}
	return api.Phase{
		Tick: 100, Age: 10, Shoe: 20000, To: 100000, Weight: 12500,
		Long: 120000, Area: 300, Gap: 50, Mud: api.Mud{Yield: 100, Visc: 10}, Flow: 1,
		Job: api.Job{
			Ends: []int64{20000}, Factor: 1000,
			Loads:  []api.Stress{{In: line(0, 500000000), Out: line(0, 0)}},
			Grades: []api.Grade{{Burst: 500000000, Collapse: 0, Pull: 1000000000, Weight: 300, Cost: 5}},
		},
		Stack: held, Cased: held,
		Sensors: []api.Sensor{{Channel: api.ChannelPit, Period: 10, Delay: 5, Noise: 2, Step: 1000, Lost: 1, Limit: 20000, Hold: 2}},
		Kicks:   api.Kicks{Rate: span(1000, 1000), Grow: span(100, 100)}, Notice: 58,
		Well: api.Well{
			Hole:   api.Hole{Segs: []api.Seg{{Long: 100000, Rise: 100000, Area: 100, Gap: 50}}},
			Weight: 12000, Points: []api.Knot{{At: 8000000, V: 540000000}}, Limit: 500000000, Pipe: 1000000, Step: 1000000,
		},
		Program: api.Program{Kind: api.KillDriller, Weight: 13000, Margin: 10000000},
		Volumes: []int64{300000}, Pores: []int64{1250000000},
	}
}

func plan() api.Plan {
	return api.Plan{Earth: known(), Grid: 1000, Phases: []api.Phase{phase()}}
}

// with is the plan with a phase that was changed.
func with(change func(*api.Phase)) api.Plan {
	p := plan()
	change(&p.Phases[0])
	return p
}

func TestTheDocumentsExamples(t *testing.T) {
	p := plan()
	if w := earth.Window(p.Earth, 100000); w != span(1200000000, 1500000000) {
		t.Error(w)
	}
	if w := house.Weights(p, 0); w != span(12000, 15000) {
		t.Error(w)
	}
	if v, e := house.Accept(p); v != (api.Verdict{OK: true}) || e != api.OK {
		t.Error(v, e)
	}
	if v, e := house.Accept(with(func(x *api.Phase) { x.Weight = 15000 })); v != (api.Verdict{Why: api.PlanFlow, At: 100000}) || e != api.OK {
		t.Error(v, e)
	}
	x := p.Phases[0]
	if n, g, e := kick.Caught(x.Sensors, api.Kick{Rate: 1000, Grow: 100}); n != 58 || g != 223300 || e != api.OK {
		t.Error(n, g, e)
	}
	l, _ := kill.Run(x.Well, x.Program, api.Bubble{Volume: 300000, Pore: 1250000000}, nil)
	most := int64(0)
	for _, m := range l {
		most = max(most, m.Points[0].Hi)
	}
	if most != 407148000 {
		t.Error(most)
	}
}

func TestP10_1Check(t *testing.T) {
	for i, c := range []struct {
		change func(*api.Plan, *api.Phase)
		want   api.Errno
	}{
		{func(p *api.Plan, x *api.Phase) {}, api.OK}, {func(p *api.Plan, x *api.Phase) { p.Earth.PoreLo = api.Line{}; p.Grid = 0 }, api.ErrShort}, {func(p *api.Plan, x *api.Phase) { p.Grid = 9; p.Phases = nil }, api.ErrRange}, {func(p *api.Plan, x *api.Phase) { p.Grid = 1<<20 + 1 }, api.ErrRange}, {func(p *api.Plan, x *api.Phase) { p.Grid = 1 << 20 }, api.OK},
		{func(p *api.Plan, x *api.Phase) { p.Phases = nil }, api.ErrShort}, {func(p *api.Plan, x *api.Phase) { p.Phases = make([]api.Phase, 7) }, api.ErrFull},
		{func(p *api.Plan, x *api.Phase) { x.Tick = -1; x.Long = 0 }, api.ErrRange}, {func(p *api.Plan, x *api.Phase) { x.Tick = 1<<40 + 1 }, api.ErrRange}, {func(p *api.Plan, x *api.Phase) { x.Age = -1 }, api.ErrRange}, {func(p *api.Plan, x *api.Phase) { x.Age = 1<<40 + 1 }, api.ErrRange},
		{func(p *api.Plan, x *api.Phase) { x.Shoe = -1 }, api.ErrRange}, {func(p *api.Plan, x *api.Phase) { x.Shoe = 100000 }, api.ErrRange}, {func(p *api.Plan, x *api.Phase) { x.To = 100001 }, api.ErrRange}, {func(p *api.Plan, x *api.Phase) { x.Sea = -1 }, api.ErrRange}, {func(p *api.Plan, x *api.Phase) { x.Sea = 100001 }, api.ErrRange}, {func(p *api.Plan, x *api.Phase) { x.Sea = 100000 }, api.OK},
		{func(p *api.Plan, x *api.Phase) { x.Light = -1 }, api.ErrRange}, {func(p *api.Plan, x *api.Phase) { x.Light = 40001 }, api.ErrRange}, {func(p *api.Plan, x *api.Phase) { x.Weight = -1 }, api.ErrRange}, {func(p *api.Plan, x *api.Phase) { x.Weight = 40001 }, api.ErrRange}, {func(p *api.Plan, x *api.Phase) { x.Top = -1 }, api.ErrRange}, {func(p *api.Plan, x *api.Phase) { x.Top = 1<<36 + 1 }, api.ErrRange},
		{func(p *api.Plan, x *api.Phase) { x.Flow = -1 }, api.ErrRange}, {func(p *api.Plan, x *api.Phase) { x.Flow = 1000001 }, api.ErrRange}, {func(p *api.Plan, x *api.Phase) { x.Mud.Yield = -1 }, api.ErrRange}, {func(p *api.Plan, x *api.Phase) { x.Mud.Yield = 1000001 }, api.ErrRange}, {func(p *api.Plan, x *api.Phase) { x.Mud.Visc = 0 }, api.ErrRange}, {func(p *api.Plan, x *api.Phase) { x.Mud.Visc = 1000001 }, api.ErrRange}, {func(p *api.Plan, x *api.Phase) { x.Notice = -1 }, api.ErrRange}, {func(p *api.Plan, x *api.Phase) { x.Notice = 1<<40 + 1 }, api.ErrRange},
		{func(p *api.Plan, x *api.Phase) { x.Long = 99999 }, api.ErrRange}, {func(p *api.Plan, x *api.Phase) { x.Long = 100000 }, api.OK}, {func(p *api.Plan, x *api.Phase) { x.Long = 1<<20 + 1; x.Job.Ends = []int64{5} }, api.ErrLong}, {func(p *api.Plan, x *api.Phase) { x.Area = 0 }, api.ErrRange}, {func(p *api.Plan, x *api.Phase) { x.Gap = 201 }, api.ErrRange},
		{func(p *api.Plan, x *api.Phase) { x.Job = api.Job{Factor: -5} }, api.OK}, {func(p *api.Plan, x *api.Phase) { x.Job.Factor = 0; x.Job.Ends[0] = 5 }, api.ErrRange}, {func(p *api.Plan, x *api.Phase) { x.Job.Grades = nil }, api.ErrShort}, {func(p *api.Plan, x *api.Phase) { x.Job.Ends[0] = 19999; x.Stack = make([]api.Test, 25) }, api.ErrForm}, {func(p *api.Plan, x *api.Phase) { x.Job.Ends = []int64{5, 20000} }, api.OK},
		{func(p *api.Plan, x *api.Phase) { x.Stack = make([]api.Test, 25); x.Sensors = nil }, api.ErrFull}, {func(p *api.Plan, x *api.Phase) { x.Cased = make([]api.Test, 25) }, api.ErrFull}, {func(p *api.Plan, x *api.Phase) { x.Cased = make([]api.Test, 24) }, api.OK},
		{func(p *api.Plan, x *api.Phase) { x.Sensors = nil; x.Kicks.Rate.Lo = -1 }, api.ErrShort}, {func(p *api.Plan, x *api.Phase) { x.Sensors[0].Channel = 0 }, api.ErrKind}, {func(p *api.Plan, x *api.Phase) { x.Kicks.Rate.Lo = -1; x.Program.Kind = 0 }, api.ErrRange},
		{func(p *api.Plan, x *api.Phase) { x.Well.Hole.Segs = nil }, api.ErrShort}, {func(p *api.Plan, x *api.Phase) { x.Program.Kind = 0 }, api.ErrKind}, {func(p *api.Plan, x *api.Phase) { x.Volumes = []int64{5, 5} }, api.ErrOrder}, {func(p *api.Plan, x *api.Phase) { x.Pores = []int64{0} }, api.ErrRange},
		{func(p *api.Plan, x *api.Phase) { p.Grid = 40 }, api.ErrLong}, {func(p *api.Plan, x *api.Phase) { p.Grid = 40; x.Pores = nil }, api.ErrShort},
		// From 20000 to 100000 there are 2001 multiples of 40, and one less from 20040 on.
		{func(p *api.Plan, x *api.Phase) { p.Grid = 40; x.Shoe = 20040; x.Job.Ends[0] = 20040 }, api.OK},
	} {
		p := plan()
		x := &p.Phases[0]
		c.change(&p, x)
		if e := house.Check(p); e != c.want {
			t.Error(i, e, c.want)
		}
		if c.want == api.OK {
			continue
		}
		v, e := house.Accept(p)
		if e != c.want || v != (api.Verdict{}) || house.Stations(p, 0) != nil || house.Judge(p, 0) != (api.Verdict{}) || house.Weights(p, 0) != span(0, 0) {
			t.Error(i, "a plan that is not valid", e)
		}
	}
}

func TestP10_1CheckTheOrderOfPhases(t *testing.T) {
	first := func(change func(*api.Phase)) api.Plan {
		p := plan()
		x := house.Copy(p).Phases[0]
		x.Shoe, x.To, x.Job = 0, 20000, api.Job{}
		change(&x)
		p.Phases = []api.Phase{x, p.Phases[0]}
		return p
	}
	for i, c := range []struct {
		change func(*api.Phase)
		want   api.Errno
	}{
		{func(x *api.Phase) {}, api.OK}, {func(x *api.Phase) { x.Tick = 101 }, api.ErrOrder}, {func(x *api.Phase) { x.Shoe = 20001; x.To = 30000 }, api.ErrOrder}, {func(x *api.Phase) { x.Shoe = 20000; x.To = 30000 }, api.OK}, {func(x *api.Phase) { x.To = 100000 }, api.ErrOrder}, {func(x *api.Phase) { x.To = 99999 }, api.OK},
		{func(x *api.Phase) { x.Pores = nil; x.Tick = 101 }, api.ErrShort},
	} {
		if e := house.Check(first(c.change)); e != c.want {
			t.Error(i, e, c.want)
		}
	}
	// The second phase is the first one that is not accepted.
	p := first(func(x *api.Phase) { x.Well.Hole.Segs[0].Rise = 20000; x.Well.Points = nil })
	p.Phases[1].Notice = 57
	if v := house.Judge(p, 0); v.Phase != 0 || v.OK && v != (api.Verdict{OK: true}) {
		t.Error(v)
	}
	if v := house.Judge(p, 1); v != (api.Verdict{Phase: 1, Why: api.PlanLate, At: 58}) {
		t.Error(v)
	}
	for _, phase := range []int{-1, 2, 1 << 62} {
		if house.Judge(p, phase) != (api.Verdict{}) || house.Stations(p, phase) != nil || house.Weights(p, phase) != span(0, 0) {
			t.Error(phase)
		}
	}
}

func TestP10_1StaticAndLoss(t *testing.T) {
	x := api.Phase{Sea: 1000, Light: 9810, Weight: 12000, Top: 5, To: 3000}
	change := func(f func(*api.Phase)) api.Phase {
		y := x
		f(&y)
		return y
	}
	for i, c := range []struct {
		x       api.Phase
		z, want int64
	}{
		{x, 500, 4905005}, {x, 2000, 21810005}, {x, 0, 5}, {x, 1000, 9810005}, {x, 3000, 33810005}, {x, -1, 0}, {x, 3001, 0},
		{change(func(x *api.Phase) { x.Sea = -1 }), 500, 0}, {change(func(x *api.Phase) { x.Sea = 3001 }), 500, 0}, {change(func(x *api.Phase) { x.Light = 40001 }), 500, 0}, {change(func(x *api.Phase) { x.Weight = -1 }), 500, 0}, {change(func(x *api.Phase) { x.Top = -1 }), 500, 0}, {change(func(x *api.Phase) { x.Top = 1<<36 + 1 }), 500, 0}, {change(func(x *api.Phase) { x.To = 1<<20 + 1 }), 500, 0}, {change(func(x *api.Phase) { x.To, x.Sea = 0, 0 }), 0, 0},
		{change(func(x *api.Phase) { x.Shoe, x.Tick, x.Flow, x.Long = -7, -7, -7, -7 }), 500, 4905005},
	} {
		if p := house.Static(c.x, c.z); p != c.want {
			t.Error(i, p)
		}
	}
	x = api.Phase{Long: 4000, To: 3000, Area: 300, Gap: 50, Mud: api.Mud{Yield: 100, Visc: 10}, Flow: 1}
	for i, c := range []struct {
		x       api.Phase
		z, want int64
		ok      bool
	}{
		{x, 2000, 8001, true}, {x, 0, 0, true}, {x, 1, 6, true}, {x, 3000, 12000, true}, {x, -1, 0, false}, {x, 3001, 0, false}, {change(func(x *api.Phase) { x.Flow = 0 }), 2000, 0, true},
		{change(func(x *api.Phase) { x.Mud.Yield = 1000000 }), 2000, 0, false}, {change(func(x *api.Phase) { x.Mud.Visc = 0 }), 2000, 0, false}, {change(func(x *api.Phase) { x.Long = 2999 }), 2000, 0, false}, {change(func(x *api.Phase) { x.Area = 0 }), 2000, 0, false}, {change(func(x *api.Phase) { x.Gap = 0 }), 2000, 0, false}, {change(func(x *api.Phase) { x.Flow = -1 }), 2000, 0, false}, {change(func(x *api.Phase) { x.To = 0 }), 0, 0, false}, {change(func(x *api.Phase) { x.To = -1 }), -1, 0, false},
		{change(func(x *api.Phase) { x.Shoe, x.Tick, x.Weight, x.Top, x.Sea = -7, -7, -7, -7, -7 }), 2000, 8001, true},
	} {
		if p, ok := house.Loss(c.x, c.z); p != c.want || ok != c.ok {
			t.Error(i, p, ok)
		}
	}
}

func TestP10_2Stations(t *testing.T) {
	p := plan()
	p.Grid = 30000
	p.Earth.Reports = []api.Report{{Kind: api.ReportDry, Z: 70001, P: 1 << 36}, {Kind: api.ReportDry, Z: 19999, P: 1 << 36}, {Kind: api.ReportHeld, Z: 60000}, {Kind: api.ReportHeld, Z: 20000}}
	if l := house.Stations(p, 0); !slices.Equal(l, []int64{20000, 30000, 60000, 70001, 90000, 100000}) {
		t.Error(l)
	}
	p.Phases[0].Shoe, p.Phases[0].Job.Ends[0] = 30001, 30001
	p.Phases[0].To = 90000
	if l := house.Stations(p, 0); !slices.Equal(l, []int64{30001, 60000, 70001, 90000}) {
		t.Error(l)
	}
}

func TestP10_2Judge(t *testing.T) {
	for i, c := range []struct {
		change func(*api.Phase)
		why    int
		at     int64
	}{
		{func(x *api.Phase) {}, 0, 0}, {func(x *api.Phase) { x.Weight = 11999; x.Flow = 0 }, api.PlanStatic, 20000}, {func(x *api.Phase) { x.Weight = 12000 }, 0, 0}, {func(x *api.Phase) { x.Weight = 15001 }, api.PlanStatic, 100000}, {func(x *api.Phase) { x.Weight = 16000 }, api.PlanStatic, 76000}, {func(x *api.Phase) { x.Weight = 15000; x.Flow = 0 }, 0, 0},
		{func(x *api.Phase) { x.Mud.Yield = 1000000; x.Job.Grades[0].Burst = 0 }, api.PlanFlow, 0}, {func(x *api.Phase) { x.Weight = 14999; x.Mud.Yield = 100 }, api.PlanFlow, 100000}, {func(x *api.Phase) { x.Weight = 14996 }, 0, 0}, {func(x *api.Phase) { x.Mud.Yield = 250000; x.Weight = 14000 }, api.PlanFlow, 38000},
		{func(x *api.Phase) { x.Job.Grades[0].Burst = 499999999; x.Stack = nil }, api.PlanCasing, 0}, {func(x *api.Phase) { x.Job = api.Job{} }, 0, 0},
		{func(x *api.Phase) { x.Stack = nil; x.Cased = nil }, api.PlanStack, 0}, {func(x *api.Phase) { x.Stack = []api.Test{{P: 499999999, Held: true, Tick: 95}} }, api.PlanStack, 0}, {func(x *api.Phase) { x.Cased = nil; x.Sensors[0].Limit = 1 << 40 }, api.PlanCased, 0}, {func(x *api.Phase) { x.Age = 9 }, api.PlanStack, 0}, {func(x *api.Phase) { x.Cased = []api.Test{{P: 1 << 36, Held: true, Tick: 89}} }, api.PlanCased, 0}, {func(x *api.Phase) { x.Cased = append(slices.Clone(x.Cased), api.Test{Tick: 99}) }, api.PlanCased, 0},
		{func(x *api.Phase) { x.Sensors[0].Limit = 1 << 40 }, api.PlanLate, -1}, {func(x *api.Phase) { x.Notice = 57; x.Pores[0] = 1 }, api.PlanLate, 58}, {func(x *api.Phase) { x.Volumes = []int64{1, 223299} }, api.PlanLate, 223299 + 1}, {func(x *api.Phase) { x.Volumes = []int64{223300} }, 0, 0}, {func(x *api.Phase) { x.Kicks.Rate.Hi = 3000 }, api.PlanLate, 3000*58 + 100*58*57/2},
		{func(x *api.Phase) { x.Well.Hole.Segs[0].Rise = 99999 }, api.PlanCover, -1}, {func(x *api.Phase) { x.Pores = []int64{1, 1199999999} }, api.PlanCover, -2}, {func(x *api.Phase) { x.Pores = []int64{1200000000} }, 0, 0}, {func(x *api.Phase) { x.Well.Points[0].V = 540000001 }, api.PlanCover, 0},
		{func(x *api.Phase) { x.Well.Points = append(x.Well.Points, api.Knot{At: 8000001, V: 540000000}) }, api.PlanCover, 1}, {func(x *api.Phase) { x.Well.Points = append(x.Well.Points, api.Knot{At: 8000001, V: 539988000}) }, 0, 0},
		{func(x *api.Phase) { x.Program.Weight = 12499; x.Volumes = []int64{1000, 300000} }, api.PlanKill, 1000}, {func(x *api.Phase) { x.Well.Points[0].V = 407147999 }, api.PlanKill, 300000}, {func(x *api.Phase) { x.Well.Points[0].V = 407148000 }, 0, 0},
	} {
		p := with(c.change)
		want := api.Verdict{OK: c.why == 0, Why: c.why, At: c.at}
		if v := house.Judge(p, 0); v != want {
			t.Error(i, v, want)
		}
		if v, e := house.Accept(p); v != want || e != api.OK {
			t.Error(i, v, e)
		}
	}
}

func TestP10_2Weights(t *testing.T) {
	for i, c := range []struct {
		change func(*api.Phase)
		want   api.Range
	}{
		{func(x *api.Phase) { x.Weight = 7 }, span(12000, 15000)}, {func(x *api.Phase) { x.Top = 1000 }, span(12000, 14999)}, {func(x *api.Phase) { x.Top = 100000000 }, span(11000, 14000)},
		// Up to 25000 the light fluid alone has to be in the window.
		{func(x *api.Phase) { x.Sea = 25000; x.Light = 12000 }, span(12000, 16000)}, {func(x *api.Phase) { x.Sea = 25000; x.Light = 11999 }, span(1, 0)}, {func(x *api.Phase) { x.Sea = 25000; x.Light = 24000 }, span(8000, 12000)}, {func(x *api.Phase) { x.Sea = 25000; x.Light = 24001 }, span(1, 0)}, {func(x *api.Phase) { x.Sea = 20000; x.Light = 40000 }, span(1, 0)},
		{func(x *api.Phase) { x.Sea = 19990; x.Light = 0 }, span(1, 0)}, {func(x *api.Phase) { x.Top = 1500000001 }, span(1, 0)}, {func(x *api.Phase) { x.Shoe = 0; x.Job = api.Job{}; x.Top = 300000000 }, span(9000, 12000)},
	} {
		if w := house.Weights(with(c.change), 0); w != c.want {
			t.Error(i, w, c.want)
		}
	}
}

// b and d are the blow-outs of the chapter's examples.
func b() api.Blow {
	return api.Blow{Lost: []bool{false, false, true}, Moves: [][]int{{1, 2}, {2}, {2}}}
}

func d() api.Blow {
	return api.Blow{Lost: []bool{false, false, true}, Moves: [][]int{{1, 2}, {0}, {2}}}
}

func TestP10_3Blow(t *testing.T) {
	for i, c := range []struct {
		change func(*api.Blow)
		want   api.Errno
	}{
		{func(b *api.Blow) {}, api.OK}, {func(b *api.Blow) { b.Lost = nil }, api.ErrShort}, {func(b *api.Blow) { b.Lost = make([]bool, 65) }, api.ErrFull}, {func(b *api.Blow) { b.Lost = b.Lost[:2]; b.Moves[0] = nil }, api.ErrForm}, {func(b *api.Blow) { b.Moves[1] = nil; b.Moves[2][0] = 9 }, api.ErrShort}, {func(b *api.Blow) { b.Moves[2] = nil; b.Moves[1][0] = 9 }, api.ErrRange}, {func(b *api.Blow) { b.Moves[1] = make([]int, 5) }, api.ErrFull}, {func(b *api.Blow) { b.Moves[1] = make([]int, 4) }, api.OK}, {func(b *api.Blow) { b.Moves[1][0] = -1 }, api.ErrRange}, {func(b *api.Blow) { b.Moves[1][0] = 3 }, api.ErrRange},
	} {
		x := d()
		c.change(&x)
		if e := house.CheckBlow(x); e != c.want {
			t.Error(i, e, c.want)
		}
		n, ok := house.Chance(x, []int{0})
		if c.want != api.OK && (house.Safe(x) != nil || n != 0 || ok || house.Way(x, 0) != nil) {
			t.Error(i, "a blow-out that is not valid")
		}
	}
	if !slices.Equal(house.Safe(b()), []bool{false, false, false}) || !slices.Equal(house.Safe(d()), []bool{true, true, false}) {
		t.Error("Safe")
	}
	for i, c := range []struct {
		b    api.Blow
		run  []int
		want int
		ok   bool
	}{{d(), []int{1, 0, 2, 2}, 1, true}, {d(), []int{2}, 0, false}, {b(), []int{0}, 0, false}, {d(), nil, 0, false}, {d(), []int{0, 3}, 0, false}, {d(), []int{-1, 0}, 0, false}, {d(), make([]int, 400), 399, true}, {d(), make([]int, 401), 0, false}, {d(), []int{0}, 0, true}} {
		if n, ok := house.Chance(c.b, c.run); n != c.want || ok != c.ok {
			t.Error(i, n, ok)
		}
	}
	for i, c := range []struct {
		b     api.Blow
		state int
		want  []int
	}{{d(), 1, []int{1, 0, 1}}, {d(), 0, []int{0, 1, 0}}, {d(), 2, nil}, {d(), 3, nil}, {d(), -1, nil}, {b(), 0, nil}, {api.Blow{Lost: make([]bool, 3), Moves: [][]int{{2}, {1, 2}, {1}}}, 0, []int{0, 2, 1, 1}}} {
		if l := house.Way(c.b, c.state); !slices.Equal(l, c.want) {
			t.Error(i, l)
		}
	}
}

func TestP10_3Wild(t *testing.T) {
	w, e := house.Wild(4, 1, 1)
	if e != api.OK || len(w.Lost) != 10 || !slices.Equal(w.Moves[0], []int{2, 3}) || !slices.Equal(w.Moves[1], []int{1, 1}) || !slices.Equal(w.Moves[8], []int{8, 9}) || house.CheckBlow(w) != api.OK {
		t.Error(w, e)
	}
	if safe := house.Safe(w); !safe[4] || safe[6] || !safe[7] || safe[9] {
		t.Error(safe)
	}
	if !slices.Equal(w.Lost, []bool{false, false, false, false, false, false, false, false, true, true}) {
		t.Error(w.Lost)
	}
	if w, e := house.Wild(15, 1, 3); e != api.OK || len(w.Lost) != 64 {
		t.Error(len(w.Lost), e)
	}
	if w, e := house.Wild(2, 15, 0); e != api.OK || len(w.Lost) != 3 || !slices.Equal(w.Moves[1], []int{1, 1}) {
		t.Error(w, e)
	}
	for i, c := range [][3]int{{16, 1, 1}, {0, 1, 1}, {1, 0, 1}, {1, 16, 1}, {1, 1, -1}, {1, 1, 4}} {
		if w, e := house.Wild(c[0], c[1], c[2]); e != api.ErrRange || w.Lost != nil || w.Moves != nil {
			t.Error(i, w, e)
		}
	}
	w.Moves[1][0] = 7
	if w.Moves[1][1] != 1 {
		t.Error("memory is shared")
	}
}

func TestP10_4SameAndCopy(t *testing.T) {
	p := plan()
	for i, change := range []func(*api.Phase){
		func(x *api.Phase) { x.Tick++ }, func(x *api.Phase) { x.Age++ }, func(x *api.Phase) { x.Shoe++ }, func(x *api.Phase) { x.To++ }, func(x *api.Phase) { x.Sea++ }, func(x *api.Phase) { x.Light++ }, func(x *api.Phase) { x.Weight++ }, func(x *api.Phase) { x.Top++ }, func(x *api.Phase) { x.Long++ }, func(x *api.Phase) { x.Area++ }, func(x *api.Phase) { x.Gap++ }, func(x *api.Phase) { x.Mud.Visc++ }, func(x *api.Phase) { x.Flow++ },
		func(x *api.Phase) { x.Job.Grades[0].Cost++ }, func(x *api.Phase) { x.Job.Loads[0].In.Knots[0].V++ }, func(x *api.Phase) { x.Job.Over++ }, func(x *api.Phase) { x.Stack[0].Tick++ }, func(x *api.Phase) { x.Cased[0].P++ }, func(x *api.Phase) { x.Sensors[0].Lost++ }, func(x *api.Phase) { x.Kicks.Grow.Lo++ }, func(x *api.Phase) { x.Notice++ },
		func(x *api.Phase) { x.Well.Hole.Segs[0].Gap++ }, func(x *api.Phase) { x.Well.Weight++ }, func(x *api.Phase) { x.Well.Points[0].V++ }, func(x *api.Phase) { x.Well.Limit++ }, func(x *api.Phase) { x.Well.Pipe++ }, func(x *api.Phase) { x.Well.Step++ }, func(x *api.Phase) { x.Program.Err++ }, func(x *api.Phase) { x.Volumes[0]++ }, func(x *api.Phase) { x.Pores = nil },
	} {
		c := house.Copy(p)
		if !house.Same(c, p) {
			t.Error(i, "a copy differs")
		}
		change(&c.Phases[0])
		if house.Same(c, p) || !house.Same(p, plan()) {
			t.Error(i, "a change")
		}
	}
	for i, change := range []func(*api.Plan){func(p *api.Plan) { p.Grid++ }, func(p *api.Plan) { p.Earth.FracLo.Knots[0].V++ }, func(p *api.Plan) { p.Phases = nil }, func(p *api.Plan) { p.Phases = append(p.Phases, api.Phase{}) }} {
		c := house.Copy(p)
		change(&c)
		if house.Same(c, p) || !house.Same(p, plan()) {
			t.Error(i, "a change")
		}
	}
	if !house.Same(api.Plan{}, api.Plan{Phases: []api.Phase{}}) || !house.Same(api.Plan{Phases: []api.Phase{{}}}, api.Plan{Phases: []api.Phase{{Stack: []api.Test{}, Volumes: []int64{}}}}) {
		t.Error("empty lists")
	}
}
