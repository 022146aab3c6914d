package exact

import "testing"

func TestDivisionsRoundAsTold(t *testing.T) {
	for _, c := range []struct{ a, b, down, up int64 }{
		{7, 2, 3, 4}, {-7, 2, -4, -3}, {8, 2, 4, 4}, {-8, 2, -4, -4}, {0, 5, 0, 0}, {1, 9, 0, 1}, {-1, 9, -1, 0},
	} {
		if d, u := Down(c.a, c.b), Up(c.a, c.b); d != c.down || u != c.up {
			t.Error(c, d, u)
		}
	}
}

func TestRootIsTheGreatest(t *testing.T) {
	for n, want := range map[int64]int64{-1: 0, 0: 0, 1: 1, 3: 1, 4: 2, 99: 9, 1<<62 - 1: 1<<31 - 1, 1 << 62: 1 << 31, 1<<63 - 1: 3037000499} {
		if r := Root(n); r != want {
			t.Error(n, r, want)
		}
	}
}

func TestGreatProducts(t *testing.T) {
	// (2^50 + 1) (2^40 + 1) is 2^90 + 2^50 + 2^40 + 1.
	q, more := Scale(1<<50+1, 1<<40+1, 1<<40)
	if q != 1<<50+1<<10+1 || !more {
		t.Error(q, more)
	}
	if up := ScaleUp(1<<50+1, 1<<40+1, 1<<40); up != q+1 {
		t.Error(up)
	}
	if up := ScaleUp(1<<40, 1<<40, 1<<30); up != 1<<50 {
		t.Error(up)
	}
	if !Less(1<<40, 1<<40, 1<<40+1, 1<<40) || Less(1<<40, 1<<40, 1<<40, 1<<40) || Less(1<<62, 8, 1<<62, 7) || !Less(2, 3, 7, 1) {
		t.Error("Less")
	}
}
