package house_test

import (
	"math/rand"
	"slices"
	"testing"

	"moonpool/api"
	"moonpool/earth"
	"moonpool/house"
	"moonpool/kick"
	"moonpool/kill"
)

// randomPlan makes a valid plan that is often accepted.
func randomPlan(r *rand.Rand) api.Plan {
	p := plan()
	p.Grid = 2000 + r.Int63n(20000)
	p.Earth.PoreHi.Knots[1].V -= r.Int63n(100000000)
	p.Earth.FracLo.Knots[0].V -= r.Int63n(30000000)
	x := &p.Phases[0]
	x.Weight = 11950 + r.Int63n(2900)
	x.Mud.Yield = r.Int63n(40000)
	x.Flow = r.Int63n(3)
	x.Kicks.Rate.Hi += r.Int63n(1500)
	x.Volumes = []int64{100000 + r.Int63n(100000), 250000 + r.Int63n(100000)}
	x.Well.Points[0].V = 480000000 + r.Int63n(65000000)
	x.Notice = 55 + r.Int63n(30)
	x.Program.Margin += r.Int63n(10000000)
	x.Program.Err = r.Int63n(1000000)
	return p
}

// plans goes through random plans with their verdicts.
func plans(t *testing.T, seed int64, count int, try func(r *rand.Rand, p api.Plan, v api.Verdict)) {
	t.Helper()
	r := rand.New(rand.NewSource(seed))
	accepted := 0
	for range count {
		p := randomPlan(r)
		v, e := house.Accept(p)
		if e != api.OK {
			t.Fatal(e)
		}
		if v.OK {
			accepted++
		}
		try(r, p, v)
	}
	if accepted < count/10 || accepted == count {
		t.Error("too few or too many are accepted", accepted)
	}
}

// randomTruth makes a truth that may fit the earth of a plan.
func randomTruth(r *rand.Rand, e api.Earth) api.Truth {
	pore, frac := r.Int63n(1001), r.Int63n(1001)
	bottom, top := e.PoreHi.Knots[1].V, e.FracLo.Knots[0].V
	return api.Truth{
		Pore: line(0, 0, 100000, bottom/1000*pore),
		Frac: line(0, top+(300000000-top)*frac/1000, 50000, 900000000+r.Int63n(2)*1000000, 100000, 1500000000+frac*10000),
	}
}

func TestP10_5Plans(t *testing.T) {
	fits := 0
	plans(t, 105, 300, func(r *rand.Rand, p api.Plan, v api.Verdict) {
		if !v.OK {
			return
		}
		truth := randomTruth(r, p.Earth)
		if !earth.Fits(p.Earth, truth) {
			return
		}
		fits++
		for _, z := range house.Stations(p, 0) {
			x := p.Phases[0]
			loss, ok := house.Loss(x, z)
			static := house.Static(x, z)
			if !ok || static < earth.At(truth.Pore, z).Hi || static+loss > earth.At(truth.Frac, z).Lo {
				t.Fatal(p, truth, z, static, loss)
			}
		}
	})
	if fits < 10 {
		t.Error("too few truths fit", fits)
	}
}

func TestP10_6KicksOfAcceptedPlans(t *testing.T) {
	plans(t, 106, 120, func(r *rand.Rand, p api.Plan, v api.Verdict) {
		if !v.OK {
			return
		}
		x := p.Phases[0]
		for range 20 {
			k := api.Kick{Rate: x.Kicks.Rate.Lo + r.Int63n(x.Kicks.Rate.Hi-x.Kicks.Rate.Lo+1), Grow: 100}
			if _, gain, e := kick.Caught(x.Sensors, k); e != api.OK || gain > x.Volumes[len(x.Volumes)-1] {
				t.Fatal(p, k, gain, e)
			}
		}
		truth := randomTruth(r, p.Earth)
		if !earth.Fits(p.Earth, truth) {
			return
		}
		for _, volume := range x.Volumes {
			l, e := kill.Run(x.Well, x.Program, api.Bubble{Volume: volume, Pore: x.Pores[0]}, []int{r.Intn(3) - 1, r.Intn(3) - 1, r.Intn(3) - 1})
			if e != api.OK {
				t.Fatal(e)
			}
			for _, m := range l {
				if m.Points[0].Hi > earth.At(truth.Frac, 20000).Lo {
					t.Fatal(p, truth, m)
				}
			}
		}
	})
}

func TestP10_7Weights(t *testing.T) {
	plans(t, 107, 60, func(r *rand.Rand, p api.Plan, v api.Verdict) {
		x := &p.Phases[0]
		x.Sea, x.Light, x.Top = r.Int63n(15000), 9000+r.Int63n(9000), r.Int63n(30000000)
		w := house.Weights(p, 0)
		for _, weight := range []int64{0, w.Lo - 1, w.Lo, (w.Lo + w.Hi) / 2, w.Hi, w.Hi + 1, 40000, r.Int63n(40001)} {
			if weight < 0 || weight > 40000 {
				continue
			}
			x.Weight = weight
			if static := house.Judge(p, 0).Why == api.PlanStatic; static == (w.Lo <= weight && weight <= w.Hi) {
				t.Fatal(p, w, weight)
			}
		}
	})
}

func TestP10_8AReportMore(t *testing.T) {
	plans(t, 108, 200, func(r *rand.Rand, p api.Plan, v api.Verdict) {
		if !v.OK {
			return
		}
		depths := earth.Depths(p.Earth)
		z := depths[r.Intn(len(depths))]
		e, err := earth.Add(p.Earth, api.Report{Kind: 1 + r.Intn(4), Z: z, P: r.Int63n(2000000000)})
		if err != api.OK || earth.Conflicts(e) != nil {
			return
		}
		p.Earth = e
		if again, err := house.Accept(p); again != v || err != api.OK {
			t.Fatal(p, again, err)
		}
	})
}

func TestP10_9TheFirstPhase(t *testing.T) {
	plans(t, 109, 60, func(r *rand.Rand, p api.Plan, v api.Verdict) {
		first := house.Copy(p).Phases[0]
		first.Shoe, first.To, first.Job = 15000, 20000, api.Job{}
		first.Well.Hole.Segs[0].Rise, first.Well.Points = 20000, nil
		first.Pores[0], first.Program = 240000000, api.Program{Kind: api.KillDriller, Weight: 13000, Margin: 10000000}
		p.Phases = []api.Phase{first, p.Phases[0]}
		v, e := house.Accept(p)
		if e != api.OK {
			t.Fatal(e)
		}
		for i := range p.Phases {
			one := house.Judge(p, i)
			if one.Phase != i || !one.OK && one != v {
				t.Fatal(i, one, v)
			}
			if !one.OK {
				return
			}
		}
		if v != (api.Verdict{OK: true}) {
			t.Fatal(v)
		}
	})
}

// randomBlow makes a valid blow-out.
func randomBlow(r *rand.Rand) api.Blow {
	n := 1 + r.Intn(12)
	var b api.Blow
	for range n {
		var moves []int
		for range 1 + r.Intn(3) {
			moves = append(moves, r.Intn(n))
		}
		b.Lost, b.Moves = append(b.Lost, r.Intn(3) == 0), append(b.Moves, moves)
	}
	return b
}

// lasts reports whether a way of so many steps avoids all losses.
func lasts(b api.Blow, state, steps int) bool {
	if b.Lost[state] {
		return false
	}
	return steps == 0 || slices.ContainsFunc(b.Moves[state], func(n int) bool { return lasts(b, n, steps-1) })
}

func TestP10_10AndP10_11LastChances(t *testing.T) {
	r := rand.New(rand.NewSource(1010))
	found := 0
	for range 400 {
		b := randomBlow(r)
		safe := house.Safe(b)
		for n := range b.Lost {
			if safe[n] != lasts(b, n, len(b.Lost)) && len(b.Lost) <= 9 {
				t.Fatal(b, n, safe)
			}
			if want := !b.Lost[n] && slices.ContainsFunc(b.Moves[n], func(m int) bool { return safe[m] }); safe[n] != want {
				t.Fatal(b, n, safe)
			}
			way := house.Way(b, n)
			if (way != nil) != safe[n] {
				t.Fatal(b, n, way)
			}
			checkWay(t, b, n, way)
		}
		var run []int
		for range r.Intn(20) {
			run = append(run, r.Intn(len(b.Lost)))
		}
		n, ok := house.Chance(b, run)
		if ok {
			found++
		}
		for i, state := range run {
			if ok && i == n && !safe[state] || (!ok || i > n) && safe[state] {
				t.Fatal(b, run, n, ok)
			}
		}
	}
	if found < 50 {
		t.Error(found)
	}
}

// checkWay looks whether a way goes along moves, through states that are not lost, up to a state that comes again.
func checkWay(t *testing.T, b api.Blow, state int, way []int) {
	t.Helper()
	for i, n := range way {
		seen := slices.Contains(way[:i], n)
		if i == 0 && n != state || b.Lost[n] || i > 0 && !slices.Contains(b.Moves[way[i-1]], n) || seen != (i == len(way)-1) {
			t.Fatal(b, state, way)
		}
	}
}

func TestP10_12WildWells(t *testing.T) {
	for limit := 1; limit <= 15; limit++ {
		for rate := 1; rate <= 15; rate++ {
			for time := range 4 {
				b, e := house.Wild(limit, rate, time)
				if e != api.OK {
					t.Fatal(e)
				}
				safe := house.Safe(b)
				for v := range limit + 1 {
					for c := range time {
						if safe[v*(time+1)+c] != (v+(time-c)*rate < limit) {
							t.Fatal(limit, rate, time, v, c)
						}
					}
					if safe[v*(time+1)+time] != (v < limit) {
						t.Fatal("a closed one", limit, rate, time, v)
					}
				}
			}
		}
	}
}

func TestR4NothingIsChanged(t *testing.T) {
	p := plan()
	house.Accept(p)
	house.Weights(p, 0)
	house.Stations(p, 0)[0] = 7
	if !house.Same(p, plan()) {
		t.Error(p)
	}
}

func TestP1AnyArguments(t *testing.T) {
	wild := []int64{-1 << 63, 1<<63 - 1, -1, 0, 1, 1 << 20, 1 << 40}
	for _, x := range wild {
		for _, y := range wild {
			for i := range 8 {
				p := with(func(f *api.Phase) {
					for j, n := range []*int64{&f.Tick, &f.Age, &f.Shoe, &f.To, &f.Sea, &f.Weight, &f.Top, &f.Long, &f.Area, &f.Gap, &f.Flow, &f.Notice, &f.Mud.Visc, &f.Well.Step, &f.Pores[0], &f.Volumes[0]} {
						if j%8 == i {
							*n = x
						}
					}
				})
				house.Accept(p)
				house.Static(p.Phases[0], y)
				house.Loss(p.Phases[0], y)
				p.Grid = y
				house.Judge(p, int(x))
			}
			house.CheckBlow(api.Blow{Lost: make([]bool, 1), Moves: [][]int{{int(x), int(y)}}})
			house.Chance(d(), []int{int(x), int(y)})
			house.Way(d(), int(x))
			house.Wild(int(x), int(y), int(x))
		}
	}
}
