package kill

import (
	"moonpool/api"
	"moonpool/exact"
)

// look returns what is wrong at a step with an error of the choke: the zero outcome, if nothing is.
func (c control) look(step, err int) api.Outcome {
	if bottom(c.plan, c.kick, err) < c.kick.Pore {
		return api.Outcome{Is: api.Broken, Step: step, Err: err, Why: api.WhyPore}
	}
	s := c.stateAt(step, err)
	for i, p := range c.well.Points {
		if is := s.press(p.At).above(p.V); is != 0 {
			return api.Outcome{Is: is, Step: step, Err: err, Why: api.WhyFrac, Point: i}
		}
	}
	// The pressure at the choke is below 0 where what it lacks is above 0.
	if is := exactly(0).minus(s.surface).above(0); is != 0 {
		return api.Outcome{Is: is, Step: step, Err: err, Why: api.WhyChoke}
	}
	if is := s.surface.above(c.well.Limit); is != 0 {
		return api.Outcome{Is: is, Step: step, Err: err, Why: api.WhyLimit}
	}
	return api.Outcome{}
}

// dead returns why kill mud alone does not hold the well after the last step: the zero outcome, if it does.
func (c control) dead(last int) api.Outcome {
	if c.plan.Weight*c.well.height < c.kick.Pore {
		return api.Outcome{Is: api.Broken, Step: last, Why: api.WhyDead}
	}
	for i, p := range c.well.Points {
		press := exactly(c.well.height).minus(c.well.at(p.At)).times(c.plan.Weight)
		if is := press.above(p.V); is != 0 {
			return api.Outcome{Is: is, Step: last, Why: api.WhyDead, Point: i}
		}
	}
	return api.Outcome{}
}

// outcome returns what comes of a kick.
func (c control) outcome() api.Outcome {
	for step, last := range c.steps() {
		for err := -1; err <= 1; err++ {
			if o := c.look(step, err); o.Is != 0 {
				return o
			}
		}
		if !last {
			continue
		}
		if o := c.dead(step); o.Is != 0 {
			return o
		}
		return api.Outcome{Is: api.Killed, Step: step}
	}
	return api.Outcome{Is: api.Unsure, Step: api.MaxSteps, Why: api.WhyLong}
}

// Ends returns the outcome of a kick.
func Ends(w api.Well, p api.Program, k api.Bubble) (api.Outcome, api.Errno) {
	if e := check(w, p, k); e != api.OK {
		return api.Outcome{}, e
	}
	return controlOf(w, p, k).outcome(), api.OK
}

// checkList returns the first error of a list of numbers of kicks.
func checkList(l []int64) api.Errno {
	if len(l) == 0 {
		return api.ErrShort
	}
	if len(l) > api.MaxKicks {
		return api.ErrFull
	}
	for i := 1; i < len(l); i++ {
		if l[i] <= l[i-1] {
			return api.ErrOrder
		}
	}
	return api.OK
}

// checkSet returns the first error of a set of kicks.
func checkSet(volumes, pores []int64) api.Errno {
	if e := checkList(volumes); e != api.OK {
		return e
	}
	if e := checkList(pores); e != api.OK {
		return e
	}
	for _, v := range volumes {
		if CheckKick(api.Bubble{Volume: v, Pore: 1}) != api.OK {
			return api.ErrRange
		}
	}
	for _, p := range pores {
		if CheckKick(api.Bubble{Volume: 1, Pore: p}) != api.OK {
			return api.ErrRange
		}
	}
	return api.OK
}

// Verify returns the first kick of a set that is not killed and its outcome, or the last kick if all are.
func Verify(w api.Well, p api.Program, volumes, pores []int64) (api.Bubble, api.Outcome, api.Errno) {
	e := check(w, p, api.Bubble{Volume: 1, Pore: 1})
	if e == api.OK {
		e = checkSet(volumes, pores)
	}
	if e != api.OK {
		return api.Bubble{}, api.Outcome{}, e
	}
	var k api.Bubble
	var o api.Outcome
kicks:
	for _, volume := range volumes {
		for _, pore := range pores {
			k = api.Bubble{Volume: volume, Pore: pore}
			o = controlOf(w, p, k).outcome()
			if o.Is != api.Killed {
				break kicks
			}
		}
	}
	return k, o, api.OK
}

// Tolerance returns for how many volumes, each greater by a step, all kicks are killed.
func Tolerance(w api.Well, p api.Program, pore, step int64, most int) (int, api.Errno) {
	if e := check(w, p, api.Bubble{Volume: 1, Pore: 1}); e != api.OK {
		return 0, e
	}
	if CheckKick(api.Bubble{Volume: 1, Pore: pore}) != api.OK || !exact.Within(step, 1, 1<<16) || most < 0 || most > 64 {
		return 0, api.ErrRange
	}
	for n := range most {
		k := api.Bubble{Volume: int64(n+1) * step, Pore: pore}
		if controlOf(w, p, k).outcome().Is != api.Killed {
			return n, api.OK
		}
	}
	return most, api.OK
}

// Choose returns the number of the first program with which all kicks of a set are killed, -1 if there is none.
func Choose(w api.Well, l []api.Program, volumes, pores []int64) (int, api.Errno) {
	if len(l) > api.MaxKicks {
		return 0, api.ErrFull
	}
	for i, p := range l {
		_, o, e := Verify(w, p, volumes, pores)
		if e != api.OK {
			return 0, e
		}
		if o.Is == api.Killed {
			return i, api.OK
		}
	}
	return -1, api.OK
}
