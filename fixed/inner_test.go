package fixed

import (
	"math"
	"testing"
)

// The calls above never hand these edges down; the inner functions hold at them all the same.

func TestSigned(t *testing.T) {
	for _, c := range []struct {
		below bool
		n     uint64
		rest  bool
		want  int64
		ok    bool
	}{
		{false, 5, false, 5, true}, {false, 5, true, 5, true}, {true, 5, false, -5, true}, {true, 5, true, -6, true},
		{false, math.MaxInt64, true, math.MaxInt64, true}, {false, 1 << 63, false, 0, false}, {false, math.MaxUint64, true, 0, false},
		{true, 1 << 63, false, math.MinInt64, true}, {true, 1 << 63, true, 0, false}, {true, 1<<63 - 1, true, math.MinInt64, true},
		{true, 1<<63 + 1, false, 0, false}, {true, math.MaxUint64, true, 0, false}, {true, 0, false, 0, true}, {true, 0, true, -1, true},
	} {
		if n, ok := signed(c.below, c.n, c.rest); n != c.want || ok != c.ok {
			t.Errorf("signed(%v, %d, %v) = %d, %v", c.below, c.n, c.rest, n, ok)
		}
	}
}

func TestTimes(t *testing.T) {
	for _, c := range []struct {
		n    uint64
		by   int64
		want int64
		ok   bool
	}{
		{3, 14, 42, true}, {0, 14, 0, true}, {math.MaxInt64, 1, math.MaxInt64, true}, {math.MaxInt64, 2, 0, false},
		{1 << 63, 1, 0, false}, {1 << 63, 10, 0, false}, {math.MaxUint64, 1, 0, false},
	} {
		if n, ok := times(c.n, c.by); n != c.want || ok != c.ok {
			t.Errorf("times(%d, %d) = %d, %v", c.n, c.by, n, ok)
		}
	}
}
