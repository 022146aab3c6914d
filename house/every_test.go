package house_test

import (
	"math/rand"
	"reflect"
	"testing"

	"moonpool/api"
	"moonpool/barrier"
	"moonpool/casing"
	"moonpool/earth"
	"moonpool/fluid"
	"moonpool/house"
	"moonpool/kick"
	"moonpool/kill"
	"moonpool/path"
	"moonpool/pipe"
	"moonpool/rig"
)

// call is a function of the document, with arguments that it accepts.
type call struct {
	f    any
	args []any
}

func of(f any, args ...any) call { return call{f, args} }

// every is each function that the chapters list.
func every() []call {
	x := phase()
	e, j, w, g, k := known(), x.Job, x.Well, x.Program, api.Bubble{Volume: 300000, Pore: 1250000000}
	e.Reports = []api.Report{{Kind: 1, Z: 50000, P: 5}, {Kind: 4, Z: 60000, P: 1 << 36}}
	down := api.Path{Legs: []api.Vec{{Z: 50000}, {Y: 30000, Z: 40000}}}
	other := api.Path{From: api.Vec{X: 500}, Legs: []api.Vec{{Z: 50000}, {Z: 40000}}}
	s := []api.Source{{ID: 1, Per: []api.Vec{{X: 9}, {Y: -9}}}, {ID: 7, Per: []api.Vec{{X: 9}, {Z: 4}}}}
	aim := api.Goal{Dirs: []api.Vec{{Z: 1000}, {Y: 600, Z: 800}}, Mult: 4, Legs: 3, Turn: api.Part{N: 1, D: 5}, Into: api.Box{Lo: api.Vec{Z: 50000}, Hi: api.Vec{Y: 9000, Z: 54000}}}
	h := api.Hole{Segs: []api.Seg{{Long: 1000, Rise: 800, Area: 300, Gap: 50}, {Long: 2000, Rise: 2000, Area: 400, Gap: 60}}}
	slugs := []api.Slug{{Weight: 12000, Volume: 700000}, {Weight: 10000, Volume: 400000}}
	gas, seg, mud := api.Gas{K: 5000, Power: 1000}, h.Segs[0], x.Mud
	tube := api.Tube{Count: 10, Len: 1000, Air: 3000000, Steel: 100, Out: 20, Yield: 1 << 40, Twist: 1 << 40, Stiff: 1 << 20}
	drill := api.String{Tubes: []api.Tube{tube, {Count: 60, Len: 1000, Air: 300000, Steel: 30, Out: 13, Yield: 1 << 40, Twist: 1 << 40}}}
	load := api.Case{Mode: 3, Mud: 100, Mu: span(100, 300), Bit: 500}
	rows := []api.Row{{Turn: api.Part{N: 1, D: 9}, Turns: 900}, {Turn: api.Part{N: 1, D: 4}, Turns: 800}}
	samples := []api.Sample{{Tick: 3}, {Tick: 13, Value: 2000}}
	inflow := api.Kick{Rate: 1000, Grow: 100}
	shut := api.Shut{Pipe: span(100, 100), Casing: span(400, 400), Gain: span(2000, 2000), Weight: 10, Depth: 1000, Area: 100}
	r := api.Rig{Places: []int{3, 3}, Bans: []api.Ban{{A: 0, ALo: 1, AHi: 1, B: 1, BLo: 1, BHi: 2}}}
	goal := []api.Span{{Lo: 2, Hi: 2}, {}}
	barriers := api.House{Elements: []api.Element{{State: 2, Bears: 1000, Until: 100}, {State: 2, Bears: 2000, Until: 50}, {State: 1}}, Envelopes: [][]int{{0, 2}, {0}, {1}}, Need: 2}
	site := api.Site{Tick: 10, Crew: 3, Offer: 1, Press: 900, House: barriers, Permits: []api.Permit{{Op: 5, Who: 2, Until: 60, Open: true}}, Broken: -1}
	entries := []api.Entry{{Tick: 12, Kind: 7, Who: 1}, {Tick: 55, Kind: 10, Who: 2, At: 5}}
	text, _ := barrier.Log(site, entries)
	return []call{
		of(path.Root, int64(144)), of(path.Check, down), of(path.Length, down), of(path.Joints, down), of(path.At, down, int64(75000)), of(path.Vert, down), of(path.Turn, down.Legs[0], down.Legs[1]), of(path.Steepest, down), of(path.CheckSources, down, s), of(path.Shifts, down, s, 1), of(path.Where, down, s, 2), of(path.Actual, down, s, []int64{5, 6}, 2),
		of(path.Touches, down, s, 1, other, s, 1, int64(50)), of(path.Separate, down, s, 1, other, s, 1, int64(50)), of(path.Known, down, s, other, s, int64(50)), of(path.Gap, down, s, other, s), of(path.CheckGoal, aim), of(path.Plan, api.Vec{Z: 48000}, api.Vec{Z: 1}, aim), of(path.Sidetrack, down, 1, aim),
		of(earth.CheckLine, e.PoreHi, int64(1<<20), int64(1<<36)), of(earth.At, e.PoreHi, int64(7)), of(earth.Least, e.PoreHi, int64(7), int64(9)), of(earth.Most, e.PoreHi, int64(7), int64(9)), of(earth.Above, e.FracLo, e.PoreHi), of(earth.Check, e), of(earth.CheckTruth, api.Truth{Pore: e.PoreHi, Frac: e.FracLo}, int64(100000)), of(earth.Depths, e), of(earth.Pore, e, int64(70000)), of(earth.Frac, e, int64(70000)), of(earth.Window, e, int64(70000)), of(earth.Fits, e, api.Truth{Pore: e.PoreHi, Frac: e.FracLo}), of(earth.Add, e, e.Reports[0]), of(earth.Conflicts, e), of(earth.Same, e, e), of(earth.Copy, e),
		of(fluid.CheckHole, h), of(fluid.Volume, h), of(fluid.Height, h), of(fluid.Where, h, int64(9)), of(fluid.CheckColumn, h, slugs), of(fluid.Plain, slugs), of(fluid.Press, h, slugs, int64(5), int64(100)), of(fluid.Pump, h, slugs, slugs[1]), of(fluid.Equivalent, h, slugs, int64(5), int64(100)), of(fluid.Flows, seg, mud, int64(3), int64(9)), of(fluid.Gradient, seg, mud, int64(9)), of(fluid.Loss, h, mud, int64(9), int64(100)), of(fluid.Free, gas, int64(1<<21)), of(fluid.Space, gas, int64(1<<21)), of(fluid.Bubble, gas), of(fluid.Load, seg, int64(100), int64(40000), int64(30)), of(fluid.Mixed, int64(12000), int64(26000), int64(4)),
		of(pipe.Check, drill), of(pipe.Length, drill), of(pipe.Wet, tube, int64(9)), of(pipe.Weight, drill, int64(9)), of(pipe.Joints, drill), of(pipe.Near, drill, int64(5), int64(9)), of(pipe.Fits, drill, down), of(pipe.Pieces, drill, down), of(pipe.Side, down.Legs[1]), of(pipe.Bend, down.Legs[0], down.Legs[1]), of(pipe.CheckCase, drill, load), of(pipe.Loads, drill, down, load), of(pipe.Strong, drill, down, load), of(pipe.Buckles, drill, down, load, int64(50)), of(pipe.CheckTable, rows), of(pipe.Turn, drill, down, rows, int64(9)), of(pipe.Add, drill, tube), of(pipe.Drop, drill, int64(61)), of(pipe.Same, drill, drill),
		of(casing.Check, j), of(casing.Inside, j.Loads[0], int64(0), int64(9)), of(casing.Outside, j.Loads[0], int64(0), int64(9)), of(casing.Needed, int64(9), int64(1100)), of(casing.Pulls, j, []int{0}), of(casing.Bears, j, []int{0}), of(casing.Cost, j, []int{0}), of(casing.Choose, j), of(casing.Cement, h, int64(9)), of(casing.Proven, x.Stack, int64(5), int64(95), int64(9)), of(casing.Same, j, j), of(casing.Copy, j),
		of(kick.Flow, inflow, int64(9)), of(kick.Gain, inflow, int64(9)), of(kick.CheckKick, inflow), of(kick.CheckKicks, x.Kicks), of(kick.CheckSensor, x.Sensors[0]), of(kick.CheckSensors, x.Sensors), of(kick.Value, x.Sensors[0], inflow, int64(9), int64(1)), of(kick.Watch, x.Sensors, samples), of(kick.Possible, x.Sensors[0], inflow, int64(9), samples), of(kick.Late, x.Sensors[0], inflow), of(kick.Latest, x.Sensors, x.Kicks), of(kick.Caught, x.Sensors, inflow), of(kick.Slow, x.Sensors[0], inflow), of(kick.False, x.Sensors[0], 5), of(kick.Identify, shut),
		of(kill.Check, w), of(kill.CheckProgram, g), of(kill.CheckKick, k), of(kill.Bottom, g, k, 1), of(kill.At, w, g, k, 3, 1), of(kill.Last, w, g, k), of(kill.Run, w, g, k, []int{1, -1}), of(kill.Ends, w, g, k), of(kill.Verify, w, g, x.Volumes, x.Pores), of(kill.Tolerance, w, g, int64(1250000000), int64(1000), 3), of(kill.Choose, w, []api.Program{g, g}, x.Volumes, x.Pores),
		of(rig.Check, r), of(rig.CheckState, r, []int{0, 1}), of(rig.Banned, r, []int{1, 1}), of(rig.Allowed, r, []int{0, 1}, []int{0, 1}), of(rig.Moves, r, []int{0, 1}), of(rig.Step, r, []int{0, 1}, []int{0, 1}, []int{1}), of(rig.Merge, r, []int{0, 1}, []api.Request{{Machine: 1, Move: 1}, {Move: 1}}), of(rig.Follow, r, []int{0, 1}, [][]int{{0, 1}, {0, -1}}), of(rig.CheckGoal, r, goal), of(rig.Ticks, r, []int{0, 1}, goal, 1), of(rig.Next, r, []int{0, 1}, goal, 1), of(rig.Ready, r, goal, 1), of(rig.Shear, api.Ram{Faces: 2000, Step: 100, Near: 20}, drill, 0, 8, 1, api.Span{Lo: 1, Hi: 1}),
		of(barrier.CheckHouse, barriers), of(barrier.Effective, barriers, 0, int64(9), int64(9)), of(barrier.Standing, barriers, int64(9), int64(9)), of(barrier.Proof, barriers, int64(9), int64(9)), of(barrier.Cuts, barriers, int64(9), int64(9)), of(barrier.Lapse, barriers, int64(9), int64(9)), of(barrier.Check, site), of(barrier.Do, site, entries[0]), of(barrier.Run, site, entries), of(barrier.Log, site, entries), of(barrier.Read, text), of(barrier.Replay, text), of(barrier.Same, site, site), of(barrier.Copy, site),
		of(house.Check, plan()), of(house.Static, x, int64(9)), of(house.Loss, x, int64(9)), of(house.Stations, plan(), 0), of(house.Judge, plan(), 0), of(house.Accept, plan()), of(house.Weights, plan(), 0), of(house.CheckBlow, d()), of(house.Safe, d()), of(house.Chance, d(), []int{0, 1}), of(house.Way, d(), 1), of(house.Wild, 4, 1, 1), of(house.Same, plan(), plan()), of(house.Copy, plan()),
	}
}

// clone copies a value with all that it refers to.
func clone(v reflect.Value) reflect.Value {
	c := reflect.New(v.Type()).Elem()
	switch v.Kind() {
	case reflect.Slice:
		if !v.IsNil() {
			c.Set(reflect.MakeSlice(v.Type(), v.Len(), v.Len()))
			for i := range v.Len() {
				c.Index(i).Set(clone(v.Index(i)))
			}
		}
	case reflect.Struct:
		for i := range v.NumField() {
			c.Field(i).Set(clone(v.Field(i)))
		}
	default:
		c.Set(v)
	}
	return c
}

// spoil changes something in a value.
func spoil(r *rand.Rand, v reflect.Value) {
	wild := []int64{-1 << 63, -1<<63 + 1, -1 << 40, -2, -1, 0, 1, 2, 3, 9, 100, 1000, 4097, 1 << 20, 1<<20 + 1, 1 << 24, 1 << 34, 1 << 36, 1 << 40, 1 << 41, 1 << 60, 1<<63 - 1}
	switch v.Kind() {
	case reflect.Int, reflect.Int64:
		if n := wild[r.Intn(len(wild))]; r.Intn(3) > 0 {
			v.SetInt(n)
		} else {
			v.SetInt(v.Int() + int64(r.Intn(3)) - 1)
		}
	case reflect.Bool:
		v.SetBool(!v.Bool())
	case reflect.String:
		b := []byte(v.String())
		if len(b) > 0 {
			b[r.Intn(len(b))] = byte(r.Intn(256))
			b = b[:len(b)-r.Intn(2)*r.Intn(len(b))]
		}
		v.SetString(string(b))
	case reflect.Struct:
		spoil(r, v.Field(r.Intn(v.NumField())))
	case reflect.Slice:
		switch n := v.Len(); {
		case n > 0 && r.Intn(4) > 0:
			spoil(r, v.Index(r.Intn(n)))
		case r.Intn(3) == 0:
			v.SetZero()
		case n > 0 && r.Intn(2) == 0:
			v.Set(v.Slice(0, n-1))
		default:
			v.Set(reflect.Append(v, reflect.Zero(v.Type().Elem())))
		}
	}
}

// TestP1EveryFunctionBearsAnyArguments calls each function with wrong arguments: none panics, and R4: none changes an argument.
func TestP1EveryFunctionBearsAnyArguments(t *testing.T) {
	r := rand.New(rand.NewSource(1))
	functions := every()
	if len(functions) != 150 {
		t.Error("the chapters list another number of functions:", len(functions))
	}
	for i, c := range functions {
		f := reflect.ValueOf(c.f)
		for n := range 600 {
			var args, kept []reflect.Value
			for _, a := range c.args {
				args = append(args, clone(reflect.ValueOf(a)))
			}
			for range min(n, r.Intn(4)) {
				spoil(r, args[r.Intn(len(args))])
			}
			for _, a := range args {
				kept = append(kept, clone(a))
			}
			once := f.Call(args)
			again := f.Call(args)
			for k := range args {
				if !reflect.DeepEqual(args[k].Interface(), kept[k].Interface()) {
					t.Fatal("an argument was changed", i, kept)
				}
			}
			for k := range once {
				if !reflect.DeepEqual(once[k].Interface(), again[k].Interface()) {
					t.Fatal("R6: another result", i, kept)
				}
			}
			checkErrno(t, i, once)
		}
	}
}

// checkErrno looks whether with an error each other result is its zero value (R3), but for Run and Replay of package barrier.
func checkErrno(t *testing.T, i int, results []reflect.Value) {
	t.Helper()
	last := results[len(results)-1]
	e, ok := last.Interface().(api.Errno)
	if !ok || e == api.OK || results[0].Type() == reflect.TypeOf(api.Site{}) {
		return
	}
	for _, v := range results[:len(results)-1] {
		if !reflect.DeepEqual(v.Interface(), reflect.Zero(v.Type()).Interface()) {
			t.Fatal("a result with an error", i, v, e)
		}
	}
}
