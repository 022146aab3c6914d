package house_test

import (
	"testing"

	"moonpool/api"
	"moonpool/house"
)

// The borders of what is valid belong to it.

func TestP10_1TheLeastNumbers(t *testing.T) {
	p := with(func(x *api.Phase) {
		x.Tick, x.Age, x.Shoe, x.To, x.Sea, x.Light, x.Weight, x.Top = 0, 0, 0, 1, 0, 0, 0, 0
		x.Long, x.Area, x.Gap, x.Mud, x.Flow, x.Notice, x.Job = 1, 1, 1, api.Mud{Yield: 0, Visc: 1}, 0, 0, api.Job{}
	})
	p.Grid = 10
	if e := house.Check(p); e != api.OK {
		t.Error(e)
	}
	x := p.Phases[0]
	if n, ok := house.Loss(x, 1); n != 0 || !ok {
		t.Error(n, ok)
	}
	x.Weight = 7
	if n := house.Static(x, 1); n != 7 {
		t.Error(n)
	}
	x.Flow, x.Mud.Yield = 1, 5
	if n, ok := house.Loss(x, 1); n < 6 || !ok {
		t.Error(n, ok)
	}
}

func TestP10_1TheGreatestNumbers(t *testing.T) {
	p := with(func(x *api.Phase) {
		x.Tick, x.Age, x.Sea, x.Light, x.Weight, x.Top, x.Notice = 1<<40, 1<<40, 100000, 40000, 40000, 1<<36, 1<<40
		x.Long, x.Area, x.Gap, x.Mud, x.Flow = 1<<20, 5000, 200, api.Mud{Yield: 1000000, Visc: 1000000}, 1000000
		x.Stack, x.Cased = make([]api.Test, 24), make([]api.Test, 24)
	})
	p.Grid = 1 << 20
	for i := range int64(5) {
		x := house.Copy(p).Phases[0]
		x.Shoe, x.To, x.Sea, x.Job = 0, 10+i, 5, api.Job{}
		p.Phases = append(p.Phases[:i:i], x, p.Phases[i])
	}
	if e := house.Check(p); e != api.OK || len(p.Phases) != 6 {
		t.Error(e, len(p.Phases))
	}
	for i := range p.Phases {
		if v := house.Judge(p, i); v.OK || v.Phase != i || v.Why != api.PlanStatic {
			t.Error(i, v)
		}
	}
}

func TestP10_2WeightsAtBorders(t *testing.T) {
	for i, c := range []struct {
		change func(*api.Plan, *api.Phase)
		want   api.Range
	}{
		// All of the phase is light fluid, so that any weight will do.
		{func(p *api.Plan, x *api.Phase) { x.Sea, x.Light = 100000, 13000 }, span(0, 40000)},
		// At the shoe one centimetre alone is heavy, and the rest leaves 10,000 of the window to it.
		{func(p *api.Plan, x *api.Phase) { x.Sea, x.Light, x.Top = 19999, 15000, 240005000 }, span(8251, 10000)},
		// There is just one weight.
		{func(p *api.Plan, x *api.Phase) { p.Earth.FracLo = p.Earth.PoreHi }, span(12000, 12000)},
	} {
		p := plan()
		c.change(&p, &p.Phases[0])
		if w := house.Weights(p, 0); w != c.want {
			t.Error(i, w)
		}
	}
}

func TestP10_2TheGreatestKick(t *testing.T) {
	p := with(func(x *api.Phase) { x.Kicks.Grow.Hi = 200 })
	if v := house.Judge(p, 0); v != (api.Verdict{Why: api.PlanLate, At: 1000*58 + 200*58*57/2}) {
		t.Error(v)
	}
}
