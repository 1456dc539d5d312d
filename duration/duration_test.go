package duration

import (
	"math"
	"math/big"
	"testing"

	"partbook/api"
)

// Durations are the valid ratios that are not negative, and of which the D divides 1680.
func TestValid(t *testing.T) {
	for n := -3; n <= 3*1680; n++ {
		for _, d := range []int{1, 2, 3, 7, 9, 16, 32, 48, 840, 1680, 3360} {
			r := big.NewRat(int64(n), int64(d))
			reduced := r.Num().Int64() == int64(n) && r.Denom().Int64() == int64(d)
			if got := Valid(api.Rat{N: n, D: d}); got != (reduced && n >= 0 && 1680%d == 0) {
				t.Fatalf("%d / %d: %v", n, d, got)
			}
		}
	}
	for _, r := range []api.Rat{{N: 0, D: 1}, {N: 1000000000, D: 1}, {N: 999999999, D: 560}} {
		if !Valid(r) {
			t.Errorf("%v is no duration", r)
		}
	}
	for _, r := range []api.Rat{{}, {N: 0, D: -1}, {N: -1, D: -1}, {N: 1, D: 1000000}, {N: 1000000001, D: 1}, {N: math.MaxInt, D: 1}, {N: math.MinInt, D: 1}, {N: 1, D: math.MinInt}, {N: math.MinInt, D: math.MinInt}} {
		if Valid(r) {
			t.Errorf("%v is a duration", r)
		}
	}
}

// There and back: each duration has one number of units alone.
func TestUnits(t *testing.T) {
	for n := -5000; n <= 5000; n++ {
		r, e := Quarters(n)
		if e != api.OK || big.NewRat(int64(r.N), int64(r.D)).Cmp(big.NewRat(int64(n), 1680)) != 0 || Units(r) != n {
			t.Fatalf("%d units: %v, %v, which has %d", n, r, e, Units(r))
		}
	}
	for _, n := range []int{1680000000001, 1 << 62, math.MinInt} {
		if r, e := Quarters(n); r != (api.Rat{}) || e == api.OK {
			t.Errorf("%d units: %v, %v", n, r, e)
		}
	}
}
