package kill_test

import (
	"math/rand"
	"slices"
	"testing"

	"moonpool/api"
	"moonpool/fluid"
	"moonpool/kill"
)

// randomWell makes a well in which some kicks are killed.
func randomWell(r *rand.Rand) api.Well {
	w := api.Well{Weight: 9000 + r.Int63n(4000), Limit: 2000000 + r.Int63n(20000000), Pipe: r.Int63n(60000)}
	for range 1 + r.Intn(3) {
		long := 200 + r.Int63n(900)
		w.Hole.Segs = append(w.Hole.Segs, api.Seg{Long: long, Rise: long - r.Int63n(long/2), Area: 5 + r.Int63n(60), Gap: 20})
	}
	volume := fluid.Volume(w.Hole)
	height := fluid.Height(w.Hole).Knots[len(w.Hole.Segs)].V
	w.Step = 1 + volume/(3+r.Int63n(20))
	at := int64(0)
	for range r.Intn(3) {
		at += r.Int63n(volume / 3)
		if len(w.Points) == 0 || at > w.Points[len(w.Points)-1].At {
			w.Points = append(w.Points, api.Knot{At: at, V: 13000*height + r.Int63n(9000000)})
		}
	}
	return w
}

// randomProgram makes a program and a kick for a well.
func randomProgram(r *rand.Rand, w api.Well) (api.Program, api.Bubble) {
	height := fluid.Height(w.Hole).Knots[len(w.Hole.Segs)].V
	k := api.Bubble{Volume: 1 + r.Int63n(1+fluid.Volume(w.Hole)/6), Pore: max(1, (w.Weight+r.Int63n(900)-100)*height)}
	x := api.Program{Kind: 1 + r.Intn(3), Weight: k.Pore/height + 1 + r.Int63n(800), Margin: r.Int63n(900000)}
	x.Err = r.Int63n(x.Margin + 1)
	if r.Intn(9) == 0 {
		x.Err += 50
	}
	return x, k
}

// scenes goes through wells with programs and kicks.
func scenes(seed int64, count int, try func(r *rand.Rand, w api.Well, x api.Program, k api.Bubble, o api.Outcome)) (killed, broken int) {
	r := rand.New(rand.NewSource(seed))
	for range count {
		w := randomWell(r)
		x, k := randomProgram(r, w)
		o, e := kill.Ends(w, x, k)
		if e != api.OK {
			panic(e)
		}
		switch o.Is {
		case api.Killed:
			killed++
		case api.Broken:
			broken++
		}
		try(r, w, x, k, o)
	}
	return killed, broken
}

func TestP7_6Killed(t *testing.T) {
	killed, _ := scenes(76, 1500, func(r *rand.Rand, w api.Well, x api.Program, k api.Bubble, o api.Outcome) {
		if o.Is != api.Killed {
			return
		}
		if last, ok := kill.Last(w, x, k); !ok || last != o.Step || o != (api.Outcome{Is: api.Killed, Step: last}) {
			t.Fatal(o, last, ok)
		}
		var errs []int
		for range r.Intn(40) {
			errs = append(errs, r.Intn(3)-1)
		}
		l, e := kill.Run(w, x, k, errs)
		if e != api.OK || len(l) != o.Step+1 {
			t.Fatal(e)
		}
		for i, m := range l {
			for j, p := range m.Points {
				if p.Lo > p.Hi || p.Hi > w.Points[j].V {
					t.Fatal(w, x, k, i, m)
				}
			}
			err := 0
			if i < len(errs) {
				err = errs[i]
			}
			if m.Surface.Lo < 0 || m.Surface.Hi > w.Limit || kill.Bottom(x, k, err) < k.Pore {
				t.Fatal(w, x, k, i, m)
			}
		}
	})
	if killed < 100 {
		t.Error(killed)
	}
}

func TestP7_7Broken(t *testing.T) {
	_, broken := scenes(77, 1500, func(r *rand.Rand, w api.Well, x api.Program, k api.Bubble, o api.Outcome) {
		if o.Is != api.Broken {
			return
		}
		m, e := kill.At(w, x, k, o.Step, o.Err)
		height := fluid.Height(w.Hole).Knots[len(w.Hole.Segs)].V
		good := e == api.OK
		switch o.Why {
		case api.WhyPore:
			good = good && kill.Bottom(x, k, o.Err) < k.Pore
		case api.WhyFrac:
			good = good && m.Points[o.Point].Lo > w.Points[o.Point].V
		case api.WhyChoke:
			good = good && m.Surface.Hi < 0
		case api.WhyLimit:
			good = good && m.Surface.Lo > w.Limit
		case api.WhyDead:
			good = good && (x.Weight*height < k.Pore || x.Weight*height > w.Points[o.Point].V)
		default:
			good = false
		}
		if !good {
			t.Fatal(w, x, k, o, m)
		}
	})
	if broken < 100 {
		t.Error(broken)
	}
}

func TestP7_8GreaterLimits(t *testing.T) {
	scenes(78, 800, func(r *rand.Rand, w api.Well, x api.Program, k api.Bubble, o api.Outcome) {
		if o.Is != api.Killed {
			return
		}
		w.Limit += r.Int63n(1000000)
		for i := range w.Points {
			w.Points[i].V += r.Int63n(1000000)
		}
		if again, e := kill.Ends(w, x, k); again != o || e != api.OK {
			t.Fatal(w, x, k, o, again)
		}
	})
}

func TestP7_9TheFirstKick(t *testing.T) {
	shown := 0
	scenes(79, 300, func(r *rand.Rand, w api.Well, x api.Program, k api.Bubble, o api.Outcome) {
		volumes, pores := []int64{k.Volume, k.Volume + 100, k.Volume + 900}, []int64{k.Pore, k.Pore + 300000}
		b, o, e := kill.Verify(w, x, volumes, pores)
		if e != api.OK {
			t.Fatal(e)
		}
		for _, v := range volumes {
			for _, p := range pores {
				now := api.Bubble{Volume: v, Pore: p}
				got, _ := kill.Ends(w, x, now)
				if now == b {
					if got != o {
						t.Fatal(got, o)
					}
					if o.Is != api.Killed {
						shown++
						return
					}
				} else if got.Is != api.Killed {
					t.Fatal("a kick before it is not killed", now, b)
				}
			}
		}
		if o.Is == api.Killed && b != (api.Bubble{Volume: volumes[2], Pore: pores[1]}) {
			t.Fatal(b)
		}
	})
	if shown < 50 {
		t.Error(shown)
	}
}

func TestP7_10And7_11Moments(t *testing.T) {
	scenes(710, 500, func(r *rand.Rand, w api.Well, x api.Program, k api.Bubble, o api.Outcome) {
		if x.Kind == api.KillBull {
			return
		}
		other := x
		other.Kind = api.KillDriller + api.KillWait - x.Kind
		step, err := r.Intn(12), r.Intn(3)-1
		m, e := kill.At(w, x, k, step, err)
		n, f := kill.At(w, other, k, step, err)
		if e != api.OK || f != api.OK {
			t.Fatal(e, f)
		}
		if m.Base.Lo >= 1 && (m.Gas.Lo*m.Base.Lo > k.Volume*k.Pore || m.Gas.Hi*m.Base.Hi < k.Volume*k.Pore) {
			t.Fatal("the amount of gas", m)
		}
		same := m.Gas == n.Gas && m.Base == n.Base && m.Surface == n.Surface && slices.Equal(m.Points, n.Points)
		if m.Pumped <= w.Pipe && !same {
			t.Fatal("no kill mud is in the annulus yet", w, m, n)
		}
	})
}

func TestP7_12Choices(t *testing.T) {
	scenes(712, 200, func(r *rand.Rand, w api.Well, x api.Program, k api.Bubble, o api.Outcome) {
		most, step := r.Intn(5), 1+r.Int63n(900)
		n, e := kill.Tolerance(w, x, k.Pore, step, most)
		higher := w
		higher.Limit += r.Int63n(3000000)
		m, f := kill.Tolerance(higher, x, k.Pore, step, most)
		if e != api.OK || f != api.OK || n > most || m < n {
			t.Fatal(n, m, most, e, f)
		}
		y, _ := randomProgram(r, w)
		volumes, pores := []int64{k.Volume, k.Volume + 5}, []int64{k.Pore}
		l := []api.Program{x, y}
		if i, e := kill.Choose(w, l, volumes, pores); e != api.OK {
			t.Fatal(e)
		} else if i >= 0 {
			if _, o, _ := kill.Verify(w, l[i], volumes, pores); o.Is != api.Killed {
				t.Fatal(i, o)
			}
		} else if _, o, _ := kill.Verify(w, x, volumes, pores); o.Is == api.Killed {
			t.Fatal("there is one")
		}
	})
}

func TestP7_13MoreGas(t *testing.T) {
	scenes(713, 500, func(r *rand.Rand, w api.Well, x api.Program, k api.Bubble, o api.Outcome) {
		if x.Kind == api.KillBull {
			return
		}
		more := k
		more.Volume += r.Int63n(5000)
		step, err := r.Intn(12), r.Intn(3)-1
		m, _ := kill.At(w, x, k, step, err)
		n, e := kill.At(w, x, more, step, err)
		if e != api.OK || n.Surface.Lo < m.Surface.Lo || n.Surface.Hi < m.Surface.Hi {
			t.Fatal(w, x, k, more, m, n)
		}
		for i := range m.Points {
			if n.Points[i].Lo < m.Points[i].Lo || n.Points[i].Hi < m.Points[i].Hi {
				t.Fatal(w, x, k, more, m, n)
			}
		}
	})
}

func TestP1TheGreatestSet(t *testing.T) {
	w := api.Well{Limit: 1 << 36, Pipe: 1 << 40}
	for range 16 {
		w.Hole.Segs = append(w.Hole.Segs, api.Seg{Long: 60000, Rise: 60000, Area: 5000, Gap: 200})
	}
	for i := range int64(8) {
		w.Points = append(w.Points, api.Knot{At: 100000 * i, V: 1 << 36})
	}
	w.Step = fluid.Volume(w.Hole)/400 + 1
	l := []int64{1, 2, 3, 4, 5, 6, 7, 8}
	for _, kind := range []int{api.KillDriller, api.KillWait} {
		if b, o, e := kill.Verify(w, api.Program{Kind: kind, Weight: 1}, l, l); e != api.OK || o != (api.Outcome{Is: api.Killed, Step: 400}) || b != (api.Bubble{Volume: 8, Pore: 8}) {
			t.Error(b, o, e)
		}
	}
}

func TestP1AnyArguments(t *testing.T) {
	wild := []int64{-1 << 63, 1<<63 - 1, -1, 0, 1, 1 << 34, 1 << 40}
	for _, x := range wild {
		for _, y := range wild {
			w := well()
			w.Pipe = max(0, min(x, 1<<40))
			kill.Check(api.Well{Hole: w.Hole, Weight: x, Points: []api.Knot{{At: x, V: y}}, Limit: y, Pipe: x, Step: y})
			z := api.Program{Kind: int(x), Weight: x, Margin: y, Err: x}
			b := api.Bubble{Volume: x, Pore: y}
			kill.Bottom(z, b, int(y))
			kill.At(w, z, b, int(x), int(y))
			kill.Ends(w, api.Program{Kind: 2, Weight: 40000, Margin: 1 << 34, Err: 1 << 34}, api.Bubble{Volume: 1 << 24, Pore: 1 << 34})
			kill.At(w, api.Program{Kind: 2, Weight: 40000}, api.Bubble{Volume: 1 << 24, Pore: 1 << 34}, 400, 1)
			kill.Run(w, p(), k(), []int{int(x), int(y)})
			kill.Verify(w, p(), []int64{x, y}, []int64{y, x})
			kill.Tolerance(w, p(), x, y, int(x))
		}
	}
}
