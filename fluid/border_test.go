package fluid_test

import (
	"testing"

	"moonpool/api"
	"moonpool/fluid"
)

// The borders of what is valid belong to it.

func TestP3_3NoWeight(t *testing.T) {
	if p, e := fluid.Equivalent(hole(), column(0, 1100000), 0, 0); p != span(0, 0) || e != api.OK {
		t.Error(p, e)
	}
	if p, e := fluid.Equivalent(hole(), column(0, 1100000), 1, 0); p != span(0, 1) || e != api.OK {
		t.Error(p, e)
	}
}

func TestP3_5BordersOfMuds(t *testing.T) {
	s := api.Seg{Long: 1, Rise: 0, Area: 5000, Gap: 200}
	for i, c := range []struct {
		m    api.Mud
		want bool
	}{
		{api.Mud{Yield: 0, Visc: 1}, true}, {api.Mud{Yield: 1000000, Visc: 1}, true}, {api.Mud{Yield: 0, Visc: 1000000}, true}, {api.Mud{Yield: 1000000, Visc: 1000000}, true},
		{api.Mud{Yield: -1, Visc: 1}, false}, {api.Mud{Yield: 1000001, Visc: 1}, false}, {api.Mud{Yield: 0, Visc: 0}, false}, {api.Mud{Yield: 0, Visc: 1000001}, false},
	} {
		if got := fluid.Flows(s, c.m, 20000, 1); got != c.want {
			t.Error(i, got)
		}
		if _, ok := fluid.Gradient(s, c.m, 1); ok != c.want {
			t.Error(i, ok)
		}
	}
	// At a t of just the yield nothing flows: 2 * 50 is 100.
	seg := hole().Segs[0]
	if fluid.Flows(seg, api.Mud{Yield: 100, Visc: 1}, 2, 1) || !fluid.Flows(seg, api.Mud{Yield: 99, Visc: 1}, 2, 1) {
		t.Error("the yield")
	}
}

func TestP3_6BordersOfGas(t *testing.T) {
	g := api.Gas{K: 1 << 60, Power: 1 << 40}
	if f := fluid.Free(g, 1<<36); f != 1<<60-1<<56 {
		t.Error(f)
	}
	if f := fluid.Free(api.Gas{K: 7, Power: 7}, 1<<20-1); f != 7 {
		t.Error(f)
	}
	if f := fluid.Free(api.Gas{K: 7, Power: 8}, 1<<20); f != 0 {
		t.Error(f)
	}
}

func TestP3_7BordersOfCuttings(t *testing.T) {
	s := api.Seg{Long: 1, Rise: 0, Area: 1, Gap: 1}
	if n, ok := fluid.Load(s, 1000000, 1000000, 1000); n != 1000 || !ok {
		t.Error(n, ok)
	}
	if n, ok := fluid.Load(s, 500, 1001, 1000); n != 1000 || !ok {
		t.Error(n, ok)
	}
	if n, ok := fluid.Load(s, 0, 1, 0); n != 0 || !ok {
		t.Error(n, ok)
	}
	if w := fluid.Mixed(40000, 0, 1000); w != 0 {
		t.Error(w)
	}
}
