package casing_test

import (
	"slices"
	"testing"

	"moonpool/api"
	"moonpool/casing"
)

// The borders of what is valid belong to it.

func TestP5_1Borders(t *testing.T) {
	j := api.Job{Ends: []int64{1, 2, 3, 4, 1 << 20}, Factor: 1000, Over: 0, Loads: slices.Repeat([]api.Stress{stress()}, 6)}
	j.Grades = []api.Grade{{Pull: 1}, {Burst: 1 << 36, Collapse: 1 << 36, Pull: 1 << 40, Weight: 1 << 20, Cost: 1 << 20}, {Pull: 1}, {Pull: 1}, {Pull: 1}, {Pull: 1}}
	if e := casing.Check(j); e != api.OK {
		t.Error(e)
	}
	if c := casing.Cost(j, []int{1, 1, 1, 1, 1}); c != 1<<40 {
		t.Error(c)
	}
	if n := casing.Needed(-1<<36, 1000); n != 0 {
		t.Error(n)
	}
}

func TestP5_2TheShare(t *testing.T) {
	// Of a pull of 3 one third is used: the share is 666 thousandths, and 999 times that is 665.3.
	with := func(outside int64) api.Job {
		return api.Job{
			Ends: []int64{10}, Factor: 1000, Over: 1,
			Loads:  []api.Stress{{In: line(0, 0), Out: line(0, outside)}},
			Grades: []api.Grade{{Burst: 0, Collapse: 999, Pull: 3}},
		}
	}
	if s, why, e := casing.Bears(with(665), []int{0}); s != -1 || why != 0 || e != api.OK {
		t.Error(s, why, e)
	}
	if s, why, e := casing.Bears(with(666), []int{0}); s != 0 || why != api.WhyCollapse || e != api.OK {
		t.Error(s, why, e)
	}
	all := with(1)
	all.Over = 3
	if s, why, e := casing.Bears(all, []int{0}); s != 0 || why != api.WhyCollapse || e != api.OK {
		t.Error("all of the pull is used", s, why, e)
	}
}

func TestP5_2NothingWithAnError(t *testing.T) {
	if s, why, e := casing.Bears(api.Job{}, nil); s != 0 || why != 0 || e != api.ErrShort {
		t.Error(s, why, e)
	}
}
