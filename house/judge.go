package house

import (
	"moonpool/api"
	"moonpool/casing"
	"moonpool/earth"
	"moonpool/exact"
	"moonpool/fluid"
	"moonpool/kick"
	"moonpool/kill"
)

// trial is a phase of a valid plan that is judged. Each of its methods returns why the phase is not accepted, or the zero verdict.
type trial struct {
	api.Phase
	earth    api.Earth
	stations []int64
	windows  []api.Range
}

func trialOf(p api.Plan, phase int) trial {
	t := trial{Phase: p.Phases[phase], earth: p.Earth, stations: stations(p, p.Phases[phase])}
	for _, z := range t.stations {
		t.windows = append(t.windows, earth.Window(p.Earth, z))
	}
	return t
}

// judge returns the verdict on a phase of a valid plan.
func judge(p api.Plan, phase int) api.Verdict {
	t := trialOf(p, phase)
	for _, test := range [...]func(trial) api.Verdict{
		trial.static, trial.flow, trial.casing, trial.stack, trial.cased, trial.late, trial.cover, trial.kill,
	} {
		v := test(t)
		if v == (api.Verdict{}) {
			continue
		}
		v.Phase = phase
		return v
	}
	return api.Verdict{OK: true, Phase: phase}
}

func (t trial) static() api.Verdict {
	for i, z := range t.stations {
		if !exact.Within(static(t.Phase, z), t.windows[i].Lo, t.windows[i].Hi) {
			return api.Verdict{Why: api.PlanStatic, At: z}
		}
	}
	return api.Verdict{}
}

func (t trial) flow() api.Verdict {
	for i, z := range t.stations {
		loss, ok := Loss(t.Phase, z)
		if !ok {
			return api.Verdict{Why: api.PlanFlow}
		}
		if static(t.Phase, z)+loss > t.windows[i].Hi {
			return api.Verdict{Why: api.PlanFlow, At: z}
		}
	}
	return api.Verdict{}
}

func (t trial) casing() api.Verdict {
	if len(t.Job.Ends) == 0 {
		return api.Verdict{}
	}
	if _, ok := casing.Choose(t.Job); !ok {
		return api.Verdict{Why: api.PlanCasing}
	}
	return api.Verdict{}
}

// proven reports whether tests prove what a shut well may need.
func (t trial) proven(l []api.Test) bool {
	return casing.Proven(l, t.Well.Limit, t.Tick, t.Age)
}

func (t trial) stack() api.Verdict {
	if !t.proven(t.Stack) {
		return api.Verdict{Why: api.PlanStack}
	}
	return api.Verdict{}
}

func (t trial) cased() api.Verdict {
	if !t.proven(t.Cased) {
		return api.Verdict{Why: api.PlanCased}
	}
	return api.Verdict{}
}

func (t trial) late() api.Verdict {
	late, e := kick.Latest(t.Sensors, t.Kicks)
	if e != api.OK {
		return api.Verdict{Why: api.PlanLate, At: -1}
	}
	if late > t.Notice {
		return api.Verdict{Why: api.PlanLate, At: late}
	}
	greatest := api.Kick{Rate: t.Kicks.Rate.Hi, Grow: t.Kicks.Grow.Hi}
	if gain := kick.Gain(greatest, late); gain > t.Volumes[len(t.Volumes)-1] {
		return api.Verdict{Why: api.PlanLate, At: gain}
	}
	return api.Verdict{}
}

func (t trial) cover() api.Verdict {
	heights := fluid.Height(t.Well.Hole)
	if heights.Knots[len(heights.Knots)-1].V != t.To {
		return api.Verdict{Why: api.PlanCover, At: -1}
	}
	if t.Pores[len(t.Pores)-1] < earth.Pore(t.earth, t.To).Hi {
		return api.Verdict{Why: api.PlanCover, At: -2}
	}
	for i, p := range t.Well.Points {
		height := earth.At(heights, p.At)
		if p.V > earth.Frac(t.earth, t.To-height.Lo).Lo || p.V > earth.Frac(t.earth, t.To-height.Hi).Lo {
			return api.Verdict{Why: api.PlanCover, At: int64(i)}
		}
	}
	return api.Verdict{}
}

func (t trial) kill() api.Verdict {
	if b, o, _ := kill.Verify(t.Well, t.Program, t.Volumes, t.Pores); o.Is != api.Killed {
		return api.Verdict{Why: api.PlanKill, At: b.Volume}
	}
	return api.Verdict{}
}

// Judge returns the verdict on a phase.
func Judge(p api.Plan, phase int) api.Verdict {
	if !hasPhase(p, phase) {
		return api.Verdict{}
	}
	return judge(p, phase)
}

// Accept returns the verdict on a plan.
func Accept(p api.Plan) (api.Verdict, api.Errno) {
	if e := Check(p); e != api.OK {
		return api.Verdict{}, e
	}
	for phase := range p.Phases {
		if v := judge(p, phase); !v.OK {
			return v, api.OK
		}
	}
	return api.Verdict{OK: true}, api.OK
}
