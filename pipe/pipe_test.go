package pipe_test

import (
	"slices"
	"testing"

	"moonpool/api"
	"moonpool/path"
	"moonpool/pipe"
)

func at(x, y, z int64) api.Vec { return api.Vec{X: x, Y: y, Z: z} }

func well(legs ...api.Vec) api.Path { return api.Path{Legs: legs} }

// bent is the path P of chapter 1.
func bent() api.Path { return well(at(0, 0, 50000), at(0, 30000, 40000)) }

// tube makes a tube that bears much.
func tube(count, long, air, steel, out int64) api.Tube {
	return api.Tube{Count: count, Len: long, Air: air, Steel: steel, Out: out, Yield: 1 << 40, Twist: 1 << 40}
}

func stringOf(l ...api.Tube) api.String { return api.String{Tubes: l} }

// drill is the string S of the chapter's examples.
func drill() api.String {
	return stringOf(tube(10, 1000, 3000000, 100, 20), tube(60, 1000, 300000, 30, 13))
}

func span(lo, hi int64) api.Range { return api.Range{Lo: lo, Hi: hi} }

// pull is a case with friction.
func pull(mode int, lo, hi, bit int64) api.Case {
	return api.Case{Mode: mode, Mu: span(lo, hi), Bit: bit}
}

func TestP4_1Check(t *testing.T) {
	s := drill()
	if e, n := pipe.Check(s), pipe.Length(s); e != api.OK || n != 70000 {
		t.Error(e, n)
	}
	good := tube(1, 100, 1, 1, 2)
	good.Yield, good.Twist = 1, 1
	for i, change := range []func(*api.Tube){
		func(t *api.Tube) { t.Count = 0 }, func(t *api.Tube) { t.Count = 401 }, func(t *api.Tube) { t.Len = 99 }, func(t *api.Tube) { t.Len = 4001 },
		func(t *api.Tube) { t.Air = 0 }, func(t *api.Tube) { t.Air = 4000001 }, func(t *api.Tube) { t.Steel = 0 }, func(t *api.Tube) { t.Steel = 401 },
		func(t *api.Tube) { t.Out = 1 }, func(t *api.Tube) { t.Out = 91 }, func(t *api.Tube) { t.Yield = 0 }, func(t *api.Tube) { t.Yield = 1<<42 + 1 },
		func(t *api.Tube) { t.Twist = 0 }, func(t *api.Tube) { t.Twist = 1<<48 + 1 }, func(t *api.Tube) { t.Stiff = -1 }, func(t *api.Tube) { t.Stiff = 1<<34 + 1 },
		func(t *api.Tube) { t.Used = -1 }, func(t *api.Tube) { t.Used = 1<<40 + 1 },
	} {
		x := good
		change(&x)
		bad := stringOf(good, x)
		if e := pipe.Check(bad); e != api.ErrRange {
			t.Error(i, e)
		}
		if pipe.Length(bad) != 0 || pipe.Weight(bad, 0) != 0 || pipe.Joints(bad) != nil || pipe.Near(bad, 0, 1000) {
			t.Error(i, "a string that is not valid")
		}
	}
	most := api.Tube{Count: 400, Len: 2621, Air: 4000000, Steel: 400, Out: 90, Yield: 1 << 42, Twist: 1 << 48, Stiff: 1 << 34, Used: 1 << 40}
	for i, c := range []struct {
		s    api.String
		want api.Errno
	}{{stringOf(), api.ErrShort}, {stringOf(slices.Repeat([]api.Tube{good}, 8)...), api.OK}, {stringOf(make([]api.Tube, 9)...), api.ErrFull}, {stringOf(most), api.OK}, {stringOf(most, good), api.OK}, {stringOf(most, tube(2, 100, 1, 1, 2)), api.ErrLong}, {stringOf(most, most, api.Tube{}), api.ErrRange}} {
		if e := pipe.Check(c.s); e != c.want {
			t.Error(i, e)
		}
	}
}

func TestP4_1Weights(t *testing.T) {
	s := drill()
	if w, all := pipe.Wet(s.Tubes[0], 12000), pipe.Weight(s, 12000); w != 1800000 || all != 14400000000 {
		t.Error(w, all)
	}
	for i, c := range []struct {
		t         api.Tube
		mud, want int64
	}{
		{api.Tube{Air: 5, Steel: 3}, 2, -1}, {api.Tube{Air: 1000000000, Steel: 1000000000}, 1000000000, 1000000000 - 1000000000000000000}, {api.Tube{Air: 1000000001}, 0, 0}, {api.Tube{Air: -1}, 0, 0}, {api.Tube{Air: 5, Steel: 1000000001}, 0, 0}, {api.Tube{Air: 5, Steel: -1}, 0, 0}, {api.Tube{Air: 5}, -1, 0}, {api.Tube{Air: 5}, 1000000001, 0},
		{api.Tube{Air: 5, Yield: -7}, 1, 5},
	} {
		if w := pipe.Wet(c.t, c.mud); w != c.want {
			t.Error(i, w)
		}
	}
	if pipe.Weight(s, -1) != 0 || pipe.Weight(s, 40001) != 0 || pipe.Weight(s, 40000) != 10000*-1000000+60000*-900000 {
		t.Error(pipe.Weight(s, 40000))
	}
}

func TestP4_1Joints(t *testing.T) {
	s := stringOf(tube(2, 500, 1, 1, 2))
	if l := pipe.Joints(s); !slices.Equal(l, []int64{0, 500, 1000}) {
		t.Error(l)
	}
	if l := pipe.Joints(stringOf(tube(1, 500, 1, 1, 2), tube(2, 100, 1, 1, 2))); !slices.Equal(l, []int64{0, 500, 600, 700}) {
		t.Error(l)
	}
	for i, c := range []struct {
		lo, hi int64
		want   bool
	}{{490, 499, false}, {490, 500, true}, {500, 510, true}, {501, 999, false}, {-5, -1, false}, {-5, 0, true}, {1001, 1<<63 - 1, false}, {1000, 1000, true}, {500, 490, false}, {-1 << 63, 1<<63 - 1, true}} {
		if got := pipe.Near(s, c.lo, c.hi); got != c.want {
			t.Error(i, got)
		}
	}
}

func TestP4_2Pieces(t *testing.T) {
	s, p := drill(), bent()
	if l := pipe.Pieces(s, p); !slices.Equal(l, []api.Piece{{Tube: 0, Leg: 1, From: 60000, To: 70000}, {Tube: 1, Leg: 1, From: 50000, To: 60000}, {Tube: 1, Leg: 0, From: 0, To: 50000}}) {
		t.Error(l)
	}
	// Here an end of a tube is at a joint of the path, and the bit is at another one.
	even := stringOf(tube(20, 1000, 1, 1, 2), tube(30, 1000, 1, 1, 2))
	if l := pipe.Pieces(even, well(at(0, 0, 30000), at(0, 0, 20000), at(0, 0, 1000))); !slices.Equal(l, []api.Piece{{Tube: 0, Leg: 1, From: 30000, To: 50000}, {Tube: 1, Leg: 0, From: 0, To: 30000}}) {
		t.Error(l)
	}
	for i, c := range []struct {
		s    api.String
		p    api.Path
		want api.Errno
	}{{s, p, api.OK}, {stringOf(), well(at(1, 2, 3)), api.ErrShort}, {s, well(at(1, 2, 3)), api.ErrForm}, {s, well(at(0, 0, 69999)), api.ErrLong}, {s, well(at(0, 0, 70000)), api.OK}, {s, well(), api.ErrLong}} {
		if e := pipe.Fits(c.s, c.p); e != c.want {
			t.Error(i, e)
		}
		if c.want != api.OK && pipe.Pieces(c.s, c.p) != nil {
			t.Error(i, "pieces of what does not fit")
		}
	}
}

func TestP4_2SideAndBend(t *testing.T) {
	for i, c := range []struct {
		v    api.Vec
		want api.Range
	}{{at(0, 30000, 40000), span(30000, 30000)}, {at(1, 1, 0), span(1, 2)}, {at(0, 0, 9), span(0, 0)}, {at(-3, 4, 1<<24), span(5, 5)}, {at(3, 4, 1<<24+1), span(0, 0)}, {at(1<<24+1, 0, 0), span(0, 0)}, {at(0, -1<<63, 0), span(0, 0)}, {at(1<<24, 1<<24, 0), span(23726566, 23726567)}} {
		if r := pipe.Side(c.v); r != c.want {
			t.Error(i, r)
		}
	}
	for i, c := range []struct {
		v, w api.Vec
		want api.Range
	}{
		{at(0, 0, 50000), at(0, 30000, 40000), span(632455, 632456)}, {at(0, 0, 5), at(0, 0, 7), span(0, 0)}, {at(0, 0, 5), at(0, 0, -7), span(2000000, 2000000)}, {at(0, 0, 5), at(0, 5, 0), span(1414213, 1414214)},
		{at(0, 0, 1), at(0, 24, 7), span(1200000, 1200000)}, {at(0, 0, 5), at(1, 1, 1), span(0, 0)}, {at(0, 0, 0), at(0, 0, 1), span(0, 0)}, {at(0, 0, 1<<17+1), at(0, 1, 0), span(0, 0)},
	} {
		if r := pipe.Bend(c.v, c.w); r != c.want {
			t.Error(i, r)
		}
	}
}

func TestP4_3CheckCase(t *testing.T) {
	s := drill()
	for i, c := range []struct {
		s    api.String
		c    api.Case
		want api.Errno
	}{
		{s, api.Case{Mode: api.ModeUp, Mud: 12000}, api.ErrState}, {s, api.Case{Mode: api.ModeUp, Mud: 9000}, api.OK}, {s, api.Case{Mode: api.ModeUp, Mud: 10000}, api.ErrState}, {s, api.Case{Mode: api.ModeUp, Mud: 9999}, api.OK},
		{stringOf(), api.Case{}, api.ErrShort}, {s, api.Case{Mode: 0, Mud: -1}, api.ErrKind}, {s, api.Case{Mode: 4}, api.ErrKind}, {s, api.Case{Mode: 3}, api.OK}, {s, api.Case{Mode: 2}, api.OK},
		{s, api.Case{Mode: 1, Mud: -1}, api.ErrRange}, {s, api.Case{Mode: 1, Mud: 40001}, api.ErrRange}, {s, pull(1, -1, 5, 0), api.ErrRange}, {s, pull(1, 6, 5, 0), api.ErrRange}, {s, pull(1, 0, 601, 0), api.ErrRange}, {s, pull(1, 600, 600, 0), api.OK}, {s, pull(1, 0, 0, -1), api.ErrRange}, {s, pull(1, 0, 0, 1<<40+1), api.ErrRange}, {s, pull(1, 0, 0, 1<<40), api.OK},
	} {
		if e := pipe.CheckCase(c.s, c.c); e != c.want {
			t.Error(i, e)
		}
	}
}

func TestP4_3Loads(t *testing.T) {
	s, p := drill(), bent()
	for i, c := range []struct {
		c    api.Case
		want []api.Hang
	}{
		{pull(api.ModeUp, 0, 0, 0), []api.Hang{{At: 60000, Tension: span(24000000000, 24000000000)}, {At: 50000, Tension: span(26400000000, 26400000000)}, {Tension: span(41400000000, 41400000000)}}},
		{pull(api.ModeUp, 200, 300, 0), []api.Hang{{At: 60000, Tension: span(27600000000, 29400000000)}, {At: 50000, Tension: span(30360000000, 32340000000)}, {Tension: span(49200266760, 53476088112)}}},
		{pull(api.ModeDown, 200, 300, 0), []api.Hang{{At: 60000, Tension: span(18600000000, 20400000000)}, {At: 50000, Tension: span(20460000000, 22440000000)}, {Tension: span(35460000000-3882014928, 37440000000-2838458040)}}},
		{pull(api.ModeSpin, 200, 300, 0), []api.Hang{{At: 60000, Tension: span(24000000000, 24000000000), Torque: span(36000000000, 54000000000)}, {At: 50000, Tension: span(26400000000, 26400000000), Torque: span(38340000000, 57510000000)}, {Tension: span(41400000000, 41400000000), Torque: span(38340000000+21705855600, 57510000000+32558834880)}}},
	} {
		got, e := pipe.Loads(s, p, c.c)
		if e != api.OK || !slices.Equal(got, c.want) {
			t.Error(i, got, e, c.want)
		}
	}
	// A push at the bit compresses: then the absolute tension drags.
	l, e := pipe.Loads(stringOf(tube(1, 1000, 100, 1, 3), tube(1, 1000, 100, 1, 3)), well(at(0, 0, 1000), at(0, 600, 800)), pull(api.ModeSpin, 100, 200, 1000000))
	if e != api.OK || l[0].Tension != span(-920000, -920000) || l[0].Torque != span(6000*3/2, 12000*3/2) || l[1].Tension != span(-820000, -820000) || l[1].Torque != span(9000+87277, 18000+174558) {
		t.Error(l, e)
	}
}

func TestP4_3LoadsRound(t *testing.T) {
	// All quotients of these are broken: the leg has the length 300, and goes up and sideways.
	s := stringOf(tube(1, 101, 7, 1, 3))
	p := api.Path{From: at(0, 0, 1000), Legs: []api.Vec{at(100, 200, -200)}}
	for i, c := range []struct {
		c    api.Case
		want api.Hang
	}{
		{pull(api.ModeUp, 333, 334, 0), api.Hang{Tension: span(-472+174, -471+177)}},
		{pull(api.ModeDown, 333, 334, 0), api.Hang{Tension: span(-472-177, -471-174)}},
		{pull(api.ModeSpin, 333, 334, 0), api.Hang{Tension: span(-472, -471), Torque: span(261, 266)}},
	} {
		if l, e := pipe.Loads(s, p, c.c); e != api.OK || len(l) != 1 || l[0] != c.want {
			t.Error(i, l, e)
		}
	}
	for i, c := range []struct {
		s    api.String
		p    api.Path
		c    api.Case
		want api.Errno
	}{
		{stringOf(), well(at(1, 2, 3)), api.Case{}, api.ErrShort}, {s, well(at(1, 2, 3)), api.Case{}, api.ErrForm}, {s, well(at(0, 0, 100)), api.Case{}, api.ErrLong}, {s, p, api.Case{}, api.ErrKind}, {s, p, pull(1, 5, 4, 0), api.ErrRange},
		{stringOf(tube(1, 101, 7, 1, 3)), p, api.Case{Mode: 1, Mud: 7}, api.ErrState},
	} {
		if l, e := pipe.Loads(c.s, c.p, c.c); e != c.want || l != nil {
			t.Error(i, l, e)
		}
		if ok, n, e := pipe.Strong(c.s, c.p, c.c); ok || n != 0 || e != c.want {
			t.Error(i, ok, n, e)
		}
		if l, e := pipe.Buckles(c.s, c.p, c.c, 0); e != c.want || l != nil {
			t.Error(i, l, e)
		}
	}
}

func TestP4_3LoadsBeyondTheirRange(t *testing.T) {
	// 2^20 cm of 4,000,000 weigh 4.19 times 10^12; 2^42 is 4.398 times 10^12.
	heavy := stringOf(tube(262, 4000, 4000000, 1, 10))
	down := well(slices.Repeat([]api.Vec{at(0, 0, 131000)}, 8)...)
	if l, e := pipe.Loads(heavy, down, pull(api.ModeUp, 0, 0, 1<<42-4192000000000)); e != api.OK || l[7].Tension.Hi != 1<<42 {
		t.Error(l, e)
	}
	if l, e := pipe.Loads(heavy, down, pull(api.ModeUp, 0, 0, 1<<42-4192000000000+1)); e != api.ErrRange || l != nil {
		t.Error(l, e)
	}
	// Friction in bends can make it greater after a bend alone.
	curved := well(at(0, 0, 131000), at(0, 78600, 104800), at(0, 0, 131000), at(0, 78600, 104800), at(0, 0, 131000), at(0, 78600, 104800), at(0, 0, 131000), at(0, 78600, 104800))
	if path.Check(curved) != api.OK {
		t.Fatal("no path")
	}
	if _, e := pipe.Loads(heavy, curved, pull(api.ModeUp, 0, 600, 0)); e != api.ErrRange {
		t.Error(e)
	}
	if _, e := pipe.Loads(heavy, curved, pull(api.ModeDown, 0, 600, 1<<40)); e != api.OK {
		t.Error(e)
	}
}

func TestP4_4Strong(t *testing.T) {
	p := bent()
	for i, c := range []struct {
		tube         int
		yield, twist int64
		mode         int
		ok           bool
		piece        int
	}{
		{0, 1 << 40, 1 << 40, 1, true, -1}, {0, 29400000000, 1, 1, true, -1}, {0, 29399999999, 1, 1, false, 0}, {1, 53476088112, 1, 1, true, -1}, {1, 53476088111, 1, 1, false, 2}, {1, 32339999999, 1, 1, false, 1},
		{0, 24000000000, 54000000000, 3, true, -1}, {0, 24000000000, 53999999999, 3, false, 0}, {1, 1 << 40, 57509999999, 3, false, 1}, {1, 1 << 40, 57510000000, 3, false, 2},
	} {
		s := drill()
		s.Tubes[c.tube].Yield, s.Tubes[c.tube].Twist = c.yield, c.twist
		if ok, n, e := pipe.Strong(s, p, pull(c.mode, 200, 300, 0)); ok != c.ok || n != c.piece || e != api.OK {
			t.Error(i, ok, n, e)
		}
	}
}

func TestP4_4Buckles(t *testing.T) {
	s, p := drill(), bent()
	// For the first piece p is 1800000; 8 * 2^20 * 1800000 / 24 has the root 793186 and more: the critical force is 793186000.
	stiff := drill()
	stiff.Tubes[0].Stiff = 1 << 20
	for i, c := range []struct {
		s    api.String
		bit  int64
		hole int64
		want []int
	}{
		{s, 0, 44, nil}, {s, 1, 44, []int{0}}, {s, 25000000000, 44, []int{0, 1}}, {s, 27000000000, 44, []int{0, 1, 2}},
		{stiff, 793186000, 44, nil}, {stiff, 793186001, 44, []int{0}}, {stiff, 793186000, 45, []int{0}},
	} {
		if l, e := pipe.Buckles(c.s, p, pull(api.ModeDown, 0, 0, c.bit), c.hole); e != api.OK || !slices.Equal(l, c.want) {
			t.Error(i, l, e)
		}
	}
	for i, c := range []struct {
		hole int64
		want api.Errno
	}{{20, api.ErrRange}, {21, api.OK}, {200, api.OK}, {201, api.ErrRange}, {-1, api.ErrRange}} {
		if _, e := pipe.Buckles(s, p, pull(1, 0, 0, 0), c.hole); e != c.want {
			t.Error(i, e)
		}
	}
	// Letting down, friction in the bend compresses the piece above it, before its own weight pulls: -9900 becomes -13657, and 10000 is critical.
	light := stringOf(tube(1, 100, 1000, 1, 2), tube(1, 100, 1000, 1, 2))
	light.Tubes[1].Stiff = 1
	for i, c := range []struct {
		mu   int64
		want []int
	}{{0, []int{0}}, {600, []int{0, 1}}} {
		if l, e := pipe.Buckles(light, well(at(0, 60, 80), at(0, 0, 100)), pull(api.ModeDown, c.mu, c.mu, 109900), 50); e != api.OK || !slices.Equal(l, c.want) {
			t.Error(i, l, e)
		}
	}
}

func TestP4_5Table(t *testing.T) {
	row := func(n, d, turns int64) api.Row { return api.Row{Turn: api.Part{N: n, D: d}, Turns: turns} }
	for i, c := range []struct {
		l    []api.Row
		want api.Errno
	}{
		{nil, api.ErrShort}, {make([]api.Row, 9), api.ErrFull}, {[]api.Row{row(0, 1, 1)}, api.OK}, {[]api.Row{row(1, 1, 1<<30)}, api.OK},
		{[]api.Row{row(-1, 1, 1)}, api.ErrRange}, {[]api.Row{row(2, 1, 1)}, api.ErrRange}, {[]api.Row{row(0, 0, 1)}, api.ErrRange}, {[]api.Row{row(0, 1001, 1)}, api.ErrRange}, {[]api.Row{row(0, 1, 0)}, api.ErrRange}, {[]api.Row{row(0, 1, 1<<30+1)}, api.ErrRange},
		{[]api.Row{row(1, 5, 9), row(1, 4, 8)}, api.OK}, {[]api.Row{row(1, 5, 9), row(2, 10, 8)}, api.ErrOrder}, {[]api.Row{row(1, 4, 9), row(1, 5, 8)}, api.ErrOrder}, {[]api.Row{row(1, 5, 9), row(1, 4, 9)}, api.ErrOrder},
		{[]api.Row{row(1, 4, 9), row(1, 5, 8), row(0, 0, 0)}, api.ErrOrder}, {[]api.Row{row(1, 4, 9), row(0, 0, 0), row(1, 5, 8)}, api.ErrRange},
	} {
		if e := pipe.CheckTable(c.l); e != c.want {
			t.Error(i, e)
		}
	}
	s, p := drill(), bent()
	for i, c := range []struct {
		l      []api.Row
		n      int64
		tube   int
		wanted int64
	}{
		{[]api.Row{row(1, 5, 1000)}, 7, 1, 7000000}, {[]api.Row{row(1, 6, 2000), row(1, 5, 1000)}, 7, 1, 7000000}, {[]api.Row{row(1, 4, 3)}, 1, 1, 333333334}, {[]api.Row{row(1, 6, 9)}, 5, 1, 5000000000}, {[]api.Row{row(1, 6, 9)}, 0, 1, 0},
	} {
		got, e := pipe.Turn(s, p, c.l, c.n)
		want := drill()
		want.Tubes[c.tube].Used = c.wanted
		if e != api.OK || !pipe.Same(got, want) || !pipe.Same(s, drill()) {
			t.Error(i, got, e)
		}
	}
	l := []api.Row{row(1, 5, 1)}
	// The tube of the piece below the bend is turned, though another one may be above it.
	two := stringOf(tube(20, 1000, 1, 1, 2), tube(50, 1000, 1, 1, 2))
	if got, e := pipe.Turn(two, p, l, 1); e != api.OK || got.Tubes[0].Used != 1000000000 || got.Tubes[1].Used != 0 {
		t.Error(got, e)
	}
	// A bend at the bit, or below it, is not turned in.
	short := stringOf(tube(50, 1000, 1, 1, 2))
	if got, e := pipe.Turn(short, p, l, 1); e != api.OK || !pipe.Same(got, short) {
		t.Error(got, e)
	}
	for i, c := range []struct {
		s    api.String
		p    api.Path
		l    []api.Row
		n    int64
		want api.Errno
	}{{stringOf(), p, nil, -1, api.ErrShort}, {s, well(), nil, -1, api.ErrLong}, {s, p, nil, -1, api.ErrShort}, {s, p, l, -1, api.ErrRange}, {s, p, l, 1<<20 + 1, api.ErrRange}, {s, p, l, 1100, api.ErrFull}, {s, p, l, 1099, api.OK}} {
		if got, e := pipe.Turn(c.s, c.p, c.l, c.n); e != c.want || e != api.OK && got.Tubes != nil {
			t.Error(i, e)
		}
	}
}

func TestP4_6AddDropSame(t *testing.T) {
	s, more := drill(), tube(5, 200, 1, 1, 2)
	if got, e := pipe.Add(s, more); e != api.OK || !pipe.Same(got, stringOf(s.Tubes[0], s.Tubes[1], more)) {
		t.Error(got, e)
	}
	if got, e := pipe.Add(stringOf(), more); e != api.OK || !pipe.Same(got, stringOf(more)) {
		t.Error(got, e)
	}
	for i, c := range []struct {
		s    api.String
		t    api.Tube
		want api.Errno
	}{{stringOf(make([]api.Tube, 9)...), more, api.ErrFull}, {stringOf(api.Tube{}), more, api.ErrRange}, {s, api.Tube{}, api.ErrRange}, {stringOf(), api.Tube{}, api.ErrRange}, {stringOf(slices.Repeat([]api.Tube{more}, 8)...), api.Tube{}, api.ErrFull}, {stringOf(tube(262, 4000, 1, 1, 2)), more, api.ErrLong}} {
		if got, e := pipe.Add(c.s, c.t); e != c.want || got.Tubes != nil {
			t.Error(i, e)
		}
	}
	for i, c := range []struct {
		n    int64
		want api.String
		e    api.Errno
	}{
		{61, stringOf(tube(9, 1000, 3000000, 100, 20)), api.OK}, {60, stringOf(s.Tubes[0]), api.OK}, {1, stringOf(s.Tubes[0], tube(59, 1000, 300000, 30, 13)), api.OK}, {70, stringOf(), api.OK},
		{71, stringOf(), api.ErrMissing}, {0, stringOf(), api.ErrMissing}, {-1 << 63, stringOf(), api.ErrMissing},
	} {
		if got, e := pipe.Drop(s, c.n); e != c.e || !pipe.Same(got, c.want) {
			t.Error(i, got, e)
		}
	}
	if _, e := pipe.Drop(stringOf(), 0); e != api.ErrShort {
		t.Error(e)
	}
	if !pipe.Same(s, drill()) || pipe.Same(s, stringOf(s.Tubes[0])) || !pipe.Same(api.String{}, api.String{Tubes: []api.Tube{}}) {
		t.Error("Same")
	}
	other := drill()
	other.Tubes[1].Used = 1
	if pipe.Same(s, other) {
		t.Error("Same")
	}
}
