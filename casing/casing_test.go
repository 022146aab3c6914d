package casing_test

import (
	"math/rand"
	"slices"
	"testing"

	"moonpool/api"
	"moonpool/casing"
	"moonpool/earth"
)

// line makes a line from pairs of numbers.
func line(l ...int64) api.Line {
	var x api.Line
	for i := 0; i+1 < len(l); i += 2 {
		x.Knots = append(x.Knots, api.Knot{At: l[i], V: l[i+1]})
	}
	return x
}

// stress is the load of the chapter's examples, job its job J.
func stress() api.Stress {
	return api.Stress{In: line(0, 500000000, 200000, 2500000000), Out: line(0, 0, 200000, 2000000000)}
}

func job() api.Job {
	return api.Job{
		Ends:  []int64{100000, 200000},
		Loads: []api.Stress{stress()},
		Grades: []api.Grade{
			{Burst: 600000000, Collapse: 300000000, Pull: 100000000, Weight: 300, Cost: 5},
			{Burst: 400000000, Collapse: 200000000, Pull: 30000000, Weight: 200, Cost: 3},
		},
		Factor: 1000,
	}
}

func TestP5_1Check(t *testing.T) {
	if e := casing.Check(job()); e != api.OK {
		t.Error(e)
	}
	for i, c := range []struct {
		change func(*api.Job)
		want   api.Errno
	}{
		{func(j *api.Job) { j.Ends = nil; j.Factor = 0 }, api.ErrShort}, {func(j *api.Job) { j.Ends = make([]int64, 6) }, api.ErrFull},
		{func(j *api.Job) { j.Ends = []int64{5, 3, 0} }, api.ErrRange}, {func(j *api.Job) { j.Ends[1] = 1<<20 + 1 }, api.ErrRange}, {func(j *api.Job) { j.Ends[1] = 1 << 20 }, api.OK}, {func(j *api.Job) { j.Ends[1] = 100000 }, api.ErrOrder},
		{func(j *api.Job) { j.Loads = make([]api.Stress, 7) }, api.ErrFull}, {func(j *api.Job) { j.Loads = nil }, api.OK}, {func(j *api.Job) { j.Loads = make([]api.Stress, 1) }, api.ErrShort},
		{func(j *api.Job) { j.Loads[0].In = line(5, 5, 5, 5); j.Loads[0].Out = api.Line{} }, api.ErrOrder}, {func(j *api.Job) { j.Loads[0].Out = line(0, 1<<36+1) }, api.ErrRange}, {func(j *api.Job) { j.Loads[0].Out = line(1<<20+1, 1) }, api.ErrRange},
		{func(j *api.Job) { j.Grades = nil }, api.ErrShort}, {func(j *api.Job) { j.Grades = make([]api.Grade, 7) }, api.ErrFull},
		{func(j *api.Job) { j.Grades[1].Burst = -1 }, api.ErrRange}, {func(j *api.Job) { j.Grades[1].Burst = 1<<36 + 1 }, api.ErrRange}, {func(j *api.Job) { j.Grades[1].Collapse = -1 }, api.ErrRange}, {func(j *api.Job) { j.Grades[1].Collapse = 1<<36 + 1 }, api.ErrRange},
		{func(j *api.Job) { j.Grades[1].Pull = 0 }, api.ErrRange}, {func(j *api.Job) { j.Grades[1].Pull = 1<<40 + 1 }, api.ErrRange}, {func(j *api.Job) { j.Grades[1].Weight = -1 }, api.ErrRange}, {func(j *api.Job) { j.Grades[1].Weight = 1<<20 + 1 }, api.ErrRange}, {func(j *api.Job) { j.Grades[1].Cost = -1 }, api.ErrRange}, {func(j *api.Job) { j.Grades[1].Cost = 1<<20 + 1 }, api.ErrRange},
		{func(j *api.Job) { j.Factor = 999 }, api.ErrRange}, {func(j *api.Job) { j.Factor = 3001 }, api.ErrRange}, {func(j *api.Job) { j.Factor = 3000; j.Over = 1 << 40 }, api.OK}, {func(j *api.Job) { j.Over = -1 }, api.ErrRange}, {func(j *api.Job) { j.Over = 1<<40 + 1 }, api.ErrRange},
	} {
		j := job()
		c.change(&j)
		if e := casing.Check(j); e != c.want {
			t.Error(i, e, c.want)
		}
		choice := make([]int, len(j.Ends))
		if _, _, e := casing.Bears(j, choice); e != c.want {
			t.Error(i, e, c.want)
		}
		if l, ok := casing.Choose(j); c.want != api.OK && (l != nil || ok || casing.Cost(j, choice) != 0 || casing.Pulls(j, choice) != nil) {
			t.Error(i, "a job that is not valid")
		}
	}
}

func TestP5_1Loads(t *testing.T) {
	l := stress()
	for i, c := range []struct{ got, want int64 }{
		{casing.Inside(l, 0, 100000), 500000000}, {casing.Outside(l, 0, 100000), -500000000}, {casing.Inside(l, 50000, 50000), 500000000},
		{casing.Inside(l, -1, 5), 0}, {casing.Inside(l, 6, 5), 0}, {casing.Inside(l, 0, 1<<20+1), 0}, {casing.Inside(l, 0, 1<<20), 500000000}, {casing.Outside(l, 6, 5), 0},
		{casing.Inside(api.Stress{In: line(0, 1<<36+1), Out: line(0, 1)}, 0, 5), 0}, {casing.Outside(api.Stress{In: line(0, 7)}, 0, 5), 0},
		// The greatest one is at a knot of the one line, or of the other one.
		{casing.Inside(api.Stress{In: line(0, 0, 10, 90, 20, 0), Out: line(0, 5)}, 0, 20), 85}, {casing.Inside(api.Stress{In: line(0, 90), Out: line(0, 50, 10, 7, 20, 50)}, 0, 20), 83}, {casing.Inside(api.Stress{In: line(0, 90), Out: line(0, 50, 10, 7, 20, 50)}, 11, 20), 79},
		{casing.Outside(api.Stress{In: line(0, 0, 10, 90, 20, 0), Out: line(0, 100)}, 5, 15), 55},
		// In is 3 and 1/3, Out 1 and 2/3.
		{casing.Inside(api.Stress{In: line(0, 0, 3, 10), Out: line(0, 0, 3, 5)}, 1, 1), 3}, {casing.Outside(api.Stress{In: line(0, 0, 3, 10), Out: line(0, 0, 3, 5)}, 1, 1), -1},
		{casing.Needed(500000000, 1100), 550000000}, {casing.Needed(-5, 1100), 0}, {casing.Needed(1, 1001), 2}, {casing.Needed(1<<36, 3000), 3 << 36}, {casing.Needed(1<<36+1, 3000), 0}, {casing.Needed(-1<<63, 1000), 0}, {casing.Needed(5, 999), 0}, {casing.Needed(5, 3001), 0},
	} {
		if c.got != c.want {
			t.Error(i, c)
		}
	}
}

func TestP5_2Choices(t *testing.T) {
	j := job()
	if p := casing.Pulls(j, []int{0, 0}); !slices.Equal(p, []int64{60000000, 30000000}) {
		t.Error(p)
	}
	if p := casing.Pulls(j, []int{1, 0}); !slices.Equal(p, []int64{50000000, 30000000}) {
		t.Error(p)
	}
	if c := casing.Cost(j, []int{0, 0}); c != 1000000 {
		t.Error(c)
	}
	for i, c := range []struct {
		change       func(*api.Job)
		choice       []int
		section, why int
	}{
		{func(j *api.Job) {}, []int{0, 0}, -1, 0}, {func(j *api.Job) {}, []int{1, 0}, 0, api.WhyBurst}, {func(j *api.Job) {}, []int{0, 1}, 1, api.WhyBurst},
		{func(j *api.Job) { j.Factor = 1200 }, []int{0, 0}, -1, 0}, {func(j *api.Job) { j.Factor = 1201 }, []int{0, 0}, 0, api.WhyBurst},
		{func(j *api.Job) { j.Over = 40000000 }, []int{0, 0}, -1, 0}, {func(j *api.Job) { j.Over = 40000001 }, []int{0, 0}, 0, api.WhyPull}, {func(j *api.Job) { j.Over = 40000001; j.Factor = 2000 }, []int{0, 0}, 0, api.WhyBurst},
		// In the second section the share is 700, so that it bears 210000000.
		{func(j *api.Job) {
			j.Loads = append(j.Loads, api.Stress{In: line(0, 0), Out: line(100000, 0, 200000, 210000000)})
		}, []int{0, 0}, -1, 0},
		{func(j *api.Job) {
			j.Loads = append(j.Loads, api.Stress{In: line(0, 0), Out: line(100000, 0, 200000, 210000001)})
		}, []int{0, 0}, 1, api.WhyCollapse},
		{func(j *api.Job) {
			j.Loads = append([]api.Stress{{In: line(0, 0), Out: line(100000, 0, 200000, 210000001)}}, j.Loads...)
		}, []int{0, 1}, 1, api.WhyBurst},
		{func(j *api.Job) { j.Loads = nil }, []int{0, 1}, -1, 0}, {func(j *api.Job) { j.Loads = nil }, []int{1, 0}, 0, api.WhyPull},
	} {
		j := job()
		c.change(&j)
		if section, why, e := casing.Bears(j, c.choice); section != c.section || why != c.why || e != api.OK {
			t.Error(i, section, why, e)
		}
	}
	for i, choice := range [][]int{nil, {0}, {0, 0, 0}, {0, 2}, {-1, 0}} {
		if s, w, e := casing.Bears(j, choice); s != 0 || w != 0 || e != api.ErrRange {
			t.Error(i, s, w, e)
		}
		if casing.Cost(j, choice) != 0 || casing.Pulls(j, choice) != nil {
			t.Error(i)
		}
	}
}

func TestP5_3Choose(t *testing.T) {
	j := job()
	if c, ok := casing.Choose(j); !ok || !slices.Equal(c, []int{0, 0}) {
		t.Error(c, ok)
	}
	j.Grades[1].Burst = 500000000
	if c, ok := casing.Choose(j); !ok || !slices.Equal(c, []int{0, 1}) {
		t.Error(c, ok)
	}
	// Equal costs: the first one in lexicographic order.
	j.Grades[1].Cost = 5
	if c, ok := casing.Choose(j); !ok || !slices.Equal(c, []int{0, 0}) {
		t.Error(c, ok)
	}
	j.Factor = 3000
	if c, ok := casing.Choose(j); ok || c != nil {
		t.Error(c, ok)
	}
}

func TestP5_4Cement(t *testing.T) {
	h := api.Hole{Segs: []api.Seg{{Long: 1000, Rise: 800, Area: 300, Gap: 50}, {Long: 2000, Rise: 2000, Area: 400, Gap: 60}}}
	for i, c := range []struct {
		h    api.Hole
		v    int64
		want api.Range
		e    api.Errno
	}{{h, 700000, api.Range{Lo: 1800, Hi: 1800}, api.OK}, {h, 700001, api.Range{Lo: 1800, Hi: 1801}, api.OK}, {h, 0, api.Range{}, api.OK}, {h, 1100000, api.Range{Lo: 2800, Hi: 2800}, api.OK}, {h, 1100001, api.Range{}, api.ErrRange}, {h, -1, api.Range{}, api.ErrRange}, {api.Hole{}, -1, api.Range{}, api.ErrShort}} {
		if r, e := casing.Cement(c.h, c.v); r != c.want || e != c.e {
			t.Error(i, r, e)
		}
	}
}

func TestP5_4Proven(t *testing.T) {
	tests := []api.Test{{P: 50, Held: true, Tick: 10}, {P: 60, Tick: 20}, {P: 40, Held: true, Tick: 30}}
	const least, most = -1 << 63, 1<<63 - 1
	for i, c := range []struct {
		l              []api.Test
		need, now, age int64
		want           bool
	}{
		{tests, 40, 35, 10, true}, {tests, 45, 35, 10, false}, {tests, 40, 35, 4, false}, {tests, 40, 35, 5, true}, {tests, 40, 29, 10, false},
		{tests, 50, 19, 9, true}, {tests, 50, 20, 10, false}, {tests, 40, 30, 0, true}, {tests, 40, 30, -1, false}, {nil, 0, 0, 0, false},
		{[]api.Test{{P: 5, Held: true, Tick: 7}, {Tick: 7}}, 5, 7, 0, false},
		{[]api.Test{{P: 5, Held: true, Tick: 7}, {Tick: 6}, {Tick: 8}}, 5, 7, 0, true},
		{slices.Repeat([]api.Test{{P: 5, Held: true, Tick: 7}}, 24), 5, 7, 0, true}, {slices.Repeat([]api.Test{{P: 5, Held: true, Tick: 7}}, 25), 5, 7, 0, false},
		{[]api.Test{{P: 5, Held: true, Tick: least}}, 5, most, most, false}, {[]api.Test{{P: 5, Held: true, Tick: least}}, 5, -1, most, true}, {[]api.Test{{P: 5, Held: true, Tick: least}}, 5, 0, most, false}, {[]api.Test{{P: most, Held: true, Tick: most}}, most, least, most, false},
		{[]api.Test{{P: 5, Held: true, Tick: least}}, 5, least, 0, true}, {[]api.Test{{P: least, Held: true}}, least, 5, 9, true},
	} {
		if got := casing.Proven(c.l, c.need, c.now, c.age); got != c.want {
			t.Error(i, got)
		}
	}
}

func TestP5_4SameAndCopy(t *testing.T) {
	j := job()
	for i, change := range []func(*api.Job){
		func(j *api.Job) { j.Ends[0]++ }, func(j *api.Job) { j.Loads[0].In.Knots[0].V++ }, func(j *api.Job) { j.Loads[0].Out.Knots[1].At++ }, func(j *api.Job) { j.Grades[1].Cost++ }, func(j *api.Job) { j.Factor++ }, func(j *api.Job) { j.Over++ }, func(j *api.Job) { j.Loads = nil },
	} {
		c := casing.Copy(j)
		if !casing.Same(c, j) {
			t.Error(i, "a copy differs")
		}
		change(&c)
		if casing.Same(c, j) || !casing.Same(j, job()) {
			t.Error(i, "a change")
		}
	}
	if !casing.Same(api.Job{}, api.Job{Ends: []int64{}, Loads: []api.Stress{}, Grades: []api.Grade{}}) {
		t.Error("empty lists")
	}
}

// randomJob makes a valid job; some have no choice that bears.
func randomJob(r *rand.Rand) api.Job {
	j := api.Job{Factor: 1000 + r.Int63n(400), Over: r.Int63n(20000)}
	z := int64(0)
	for range 1 + r.Intn(3) {
		z += 1 + r.Int63n(200)
		j.Ends = append(j.Ends, z)
	}
	some := func() api.Line {
		return line(0, r.Int63n(1000), 1+r.Int63n(99), r.Int63n(1000), 100+r.Int63n(300), r.Int63n(1000))
	}
	for range r.Intn(3) {
		j.Loads = append(j.Loads, api.Stress{In: some(), Out: some()})
	}
	for range 1 + r.Intn(4) {
		j.Grades = append(j.Grades, api.Grade{Burst: r.Int63n(2000), Collapse: r.Int63n(4000), Pull: 20000 + r.Int63n(200000), Weight: r.Int63n(300), Cost: r.Int63n(9)})
	}
	return j
}

// choices are all choices of a job, in lexicographic order.
func choices(j api.Job) [][]int {
	all := [][]int{nil}
	for range j.Ends {
		var longer [][]int
		for _, c := range all {
			for n := range j.Grades {
				longer = append(longer, append(slices.Clone(c), n))
			}
		}
		all = longer
	}
	return all
}

func TestP5_5To5_7Design(t *testing.T) {
	r := rand.New(rand.NewSource(55))
	found := 0
	for range 400 {
		j := randomJob(r)
		best, ok := casing.Choose(j)
		var want []int
		for _, c := range choices(j) {
			section, why, e := casing.Bears(j, c)
			if e != api.OK || (section < 0) != (why == 0) || section >= len(j.Ends) {
				t.Fatal(section, why, e)
			}
			if section < 0 && (want == nil || casing.Cost(j, c) < casing.Cost(j, want)) {
				want = c
			}
		}
		if ok != (want != nil) || !slices.Equal(best, want) {
			t.Fatal(j, best, want)
		}
		if !ok {
			continue
		}
		found++
		from := int64(0)
		for i, to := range j.Ends {
			g := j.Grades[best[i]]
			for z := from; z <= to; z++ {
				for _, l := range j.Loads {
					in, out := earth.At(l.In, z), earth.At(l.Out, z)
					if in.Lo-out.Hi > g.Burst || out.Lo-in.Hi > g.Collapse {
						t.Fatal(j, best, z)
					}
				}
			}
			if casing.Pulls(j, best)[i] > g.Pull {
				t.Fatal(j, best)
			}
			from = to
		}
		price := func(change func(*api.Job)) (int64, bool) {
			k := casing.Copy(j)
			change(&k)
			c, ok := casing.Choose(k)
			return casing.Cost(k, c), ok
		}
		least := casing.Cost(j, best)
		for i, harder := range []func(*api.Job){func(k *api.Job) { k.Loads = append(k.Loads, randomLoad(r)) }, func(k *api.Job) { k.Factor += 100 }, func(k *api.Job) { k.Over += 3000 }} {
			if c, ok := price(harder); ok && c < least {
				t.Fatal(i, j, c, least)
			}
		}
		if c, ok := price(func(k *api.Job) { k.Grades = append(k.Grades, randomJob(r).Grades[0]) }); !ok || c > least {
			t.Fatal("one grade more", j, c, least)
		}
	}
	if found < 100 {
		t.Error(found)
	}
}

func randomLoad(r *rand.Rand) api.Stress {
	return api.Stress{In: line(0, r.Int63n(1000), 300, r.Int63n(1000)), Out: line(50, r.Int63n(1000), 300, r.Int63n(1000))}
}

func TestP5_8AndP5_9Parts(t *testing.T) {
	r := rand.New(rand.NewSource(58))
	for range 300 {
		j := randomJob(r)
		for _, c := range choices(j) {
			p := casing.Pulls(j, c)
			if !slices.IsSortedFunc(p, func(a, b int64) int { return int(b - a) }) || p[len(p)-1] < j.Over {
				t.Fatal(j, c, p)
			}
		}
		l := randomLoad(r)
		from, to := r.Int63n(200), 200+r.Int63n(200)
		a := min(to, from+r.Int63n(50))
		b := max(a, to-r.Int63n(50))
		if casing.Inside(l, from, to) < casing.Inside(l, a, b)-1 {
			t.Fatal(l, from, to, a, b)
		}
		swapped := api.Stress{In: l.Out, Out: l.In}
		if casing.Inside(l, from, to) != casing.Outside(swapped, from, to) || casing.Outside(l, from, to) != casing.Inside(swapped, from, to) {
			t.Fatal(l)
		}
	}
}

func TestP5_10AndP5_11(t *testing.T) {
	r := rand.New(rand.NewSource(510))
	h := api.Hole{Segs: []api.Seg{{Long: 100, Rise: 77, Area: 3, Gap: 50}, {Long: 200, Rise: 151, Area: 7, Gap: 60}}}
	before := api.Range{}
	for v := int64(0); v <= 1700; v++ {
		now, e := casing.Cement(h, v)
		if e != api.OK || now.Lo < before.Lo || now.Hi < before.Hi {
			t.Fatal(v, now)
		}
		before = now
	}
	if before != (api.Range{Lo: 228, Hi: 228}) {
		t.Error(before)
	}
	proven := 0
	for range 2000 {
		var l []api.Test
		for range 1 + r.Intn(4) {
			l = append(l, api.Test{P: r.Int63n(10), Held: r.Intn(3) > 0, Tick: r.Int63n(20)})
		}
		need, now, age := r.Int63n(8), r.Int63n(25), r.Int63n(15)
		if !casing.Proven(l, need, now, age) {
			continue
		}
		proven++
		if !casing.Proven(l, need-r.Int63n(5), now, age+r.Int63n(5)) || casing.Proven(append(l, api.Test{P: 9, Tick: now}), need, now, age) {
			t.Fatal(l, need, now, age)
		}
	}
	if proven < 100 {
		t.Error(proven)
	}
}

func TestP5_3TheGreatestJob(t *testing.T) {
	j := job()
	j.Ends = []int64{100, 200, 300, 400, 500}
	j.Grades = slices.Repeat(j.Grades[:1], 6)
	var l api.Line
	for i := range int64(24) {
		l.Knots = append(l.Knots, api.Knot{At: 20 * i, V: 5 * i})
	}
	j.Loads = slices.Repeat([]api.Stress{{In: l, Out: l}}, 6)
	if c, ok := casing.Choose(j); !ok || !slices.Equal(c, []int{0, 0, 0, 0, 0}) {
		t.Error(c, ok)
	}
}

func TestP1AnyArguments(t *testing.T) {
	wild := []int64{-1 << 63, 1<<63 - 1, -1, 0, 1, 1 << 40}
	for _, x := range wild {
		for _, y := range wild {
			l := line(x, y, y, x)
			casing.Check(api.Job{Ends: []int64{x, y}, Loads: []api.Stress{{In: l, Out: l}}, Grades: []api.Grade{{Burst: x, Pull: y}}, Factor: x, Over: y})
			casing.Inside(stress(), x, y)
			casing.Outside(api.Stress{In: l, Out: l}, x, y)
			casing.Needed(x, y)
			casing.Bears(job(), []int{int(x), int(y)})
			casing.Cost(job(), []int{int(x), int(y)})
			casing.Cement(api.Hole{Segs: []api.Seg{{Long: x, Rise: y, Area: x, Gap: y}}}, x)
			casing.Proven([]api.Test{{P: x, Held: true, Tick: y}, {Tick: x}}, x, y, x)
		}
	}
}
