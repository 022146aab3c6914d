package casing

import (
	"iter"
	"slices"

	"moonpool/api"
	"moonpool/earth"
)

// sections yields the depths at which each section of a valid job begins and ends.
func sections(j api.Job) iter.Seq2[int64, int64] {
	return func(yield func(int64, int64) bool) {
		from := int64(0)
		for _, to := range j.Ends {
			if !yield(from, to) {
				return
			}
			from = to
		}
	}
}

// greatest returns the greatest result of an operation on the values of lines, over the ends of a section and the knots in it.
func greatest(from, to int64, operation func([]api.Range) int64, lines ...api.Line) int64 {
	at := func(z int64) int64 {
		var values []api.Range
		for _, l := range lines {
			values = append(values, earth.At(l, z))
		}
		return operation(values)
	}
	most := max(at(from), at(to))
	for _, l := range lines {
		for _, k := range l.Knots {
			if from < k.At && k.At < to {
				most = max(most, at(k.At))
			}
		}
	}
	return most
}

// excess is by how much the first value may be greater than the second one.
func excess(v []api.Range) int64 { return v[0].Hi - v[1].Lo }

// isPart reports whether a load has a section.
func isPart(l api.Stress, from, to int64) bool {
	return checkLoad(l) == api.OK && 0 <= from && from <= to && to <= api.MaxDepth
}

// Inside returns the load inside of a section.
func Inside(l api.Stress, from, to int64) int64 {
	if !isPart(l, from, to) {
		return 0
	}
	return greatest(from, to, excess, l.In, l.Out)
}

// Outside returns the load outside of a section.
func Outside(l api.Stress, from, to int64) int64 {
	if !isPart(l, from, to) {
		return 0
	}
	return greatest(from, to, excess, l.Out, l.In)
}

// demand is what is needed of a section over all loads.
type demand struct {
	burst, collapse int64
}

// demands returns what is needed of each section of a valid job.
func demands(j api.Job) []demand {
	var all []demand
	for from, to := range sections(j) {
		var d demand
		for _, l := range j.Loads {
			d.burst = max(d.burst, Needed(Inside(l, from, to), j.Factor))
			d.collapse = max(d.collapse, Needed(Outside(l, from, to), j.Factor))
		}
		all = append(all, d)
	}
	return all
}

// isChoice reports whether a choice has one grade for each section.
func isChoice(j api.Job, choice []int) bool {
	wrong := func(n int) bool { return n < 0 || n >= len(j.Grades) }
	return len(choice) == len(j.Ends) && !slices.ContainsFunc(choice, wrong)
}

// pulls returns the pull in each section of a valid job with a choice.
func pulls(j api.Job, choice []int) []int64 {
	var weights []int64
	for from, to := range sections(j) {
		weights = append(weights, j.Grades[choice[len(weights)]].Weight*(to-from))
	}
	below := j.Over
	for i := len(weights) - 1; i >= 0; i-- {
		below += weights[i]
		weights[i] = below
	}
	return weights
}

// Pulls returns the pull in each section.
func Pulls(j api.Job, choice []int) []int64 {
	if Check(j) != api.OK || !isChoice(j, choice) {
		return nil
	}
	return pulls(j, choice)
}

// why returns why a section does not bear with a grade, 0 if it does.
func why(d demand, g api.Grade, pull int64) int {
	if d.burst > g.Burst {
		return api.WhyBurst
	}
	if pull > g.Pull {
		return api.WhyPull
	}
	// A casing that is pulled bears less from outside.
	share := 1000 * (g.Pull - pull) / g.Pull
	if d.collapse > g.Collapse*share/1000 {
		return api.WhyCollapse
	}
	return 0
}

// bears returns the first section of a valid job that does not bear with a choice, and why.
func bears(j api.Job, needed []demand, choice []int) (int, int) {
	for i, pull := range pulls(j, choice) {
		if w := why(needed[i], j.Grades[choice[i]], pull); w != 0 {
			return i, w
		}
	}
	return -1, 0
}

// Bears returns the first section that does not bear with a choice, and why.
func Bears(j api.Job, choice []int) (section, why int, e api.Errno) {
	if e := Check(j); e != api.OK {
		return 0, 0, e
	}
	if !isChoice(j, choice) {
		return 0, 0, api.ErrRange
	}
	section, why = bears(j, demands(j), choice)
	return section, why, api.OK
}

// cost returns the cost of a choice for a valid job.
func cost(j api.Job, choice []int) int64 {
	sum, i := int64(0), 0
	for from, to := range sections(j) {
		sum += j.Grades[choice[i]].Cost * (to - from)
		i++
	}
	return sum
}

// Cost returns the cost of a choice.
func Cost(j api.Job, choice []int) int64 {
	if Check(j) != api.OK || !isChoice(j, choice) {
		return 0
	}
	return cost(j, choice)
}

// offer is a choice with its cost; it has no choice as long as none was found.
type offer struct {
	choice []int
	cost   int64
}

// beats reports whether an offer is better than another one that came before it.
func (o *offer) beats(p *offer) bool { return p.choice == nil || o.cost < p.cost }

// Choose returns the best choice.
func Choose(j api.Job) ([]int, bool) {
	if Check(j) != api.OK {
		return nil, false
	}
	needed := demands(j)
	best := &offer{}
	var choice []int
	var choose func()
	choose = func() {
		if len(choice) == len(j.Ends) {
			o := &offer{choice: choice, cost: cost(j, choice)}
			if section, _ := bears(j, needed, choice); section < 0 && o.beats(best) {
				best.choice, best.cost = slices.Clone(choice), o.cost
			}
			return
		}
		for n := range j.Grades {
			choice = append(choice, n)
			choose()
			choice = choice[:len(choice)-1]
		}
	}
	choose()
	return best.choice, best.choice != nil
}
