package limit

import (
	"math"
	"testing"
)

// Numbers at both limits, next to them, and far beyond them.
func TestBetween(t *testing.T) {
	for _, x := range []struct {
		n, least, greatest int
		want               bool
	}{
		{-2, -2, 2, true}, {2, -2, 2, true}, {0, -2, 2, true}, {-3, -2, 2, false}, {3, -2, 2, false}, {5, 5, 5, true}, {5, 6, 4, false}, {5, 5, 4, false},
		{math.MinInt, -2, 2, false}, {math.MaxInt, -2, 2, false}, {math.MinInt, math.MinInt, math.MaxInt, true}, {math.MaxInt, math.MinInt, math.MaxInt, true},
	} {
		if got := Between(x.n, x.least, x.greatest); got != x.want {
			t.Errorf("%v: %v", x, got)
		}
	}
}

// IDs are from 1 to 1000000.
func TestIsID(t *testing.T) {
	for _, n := range []int{1, 2, 500000, 999999, 1000000} {
		if !IsID(n) {
			t.Errorf("%d is no ID", n)
		}
	}
	for _, n := range []int{0, -1, -1000000, 1000001, 2000000, math.MinInt, math.MaxInt} {
		if IsID(n) {
			t.Errorf("%d is an ID", n)
		}
	}
}
