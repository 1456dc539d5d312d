// Package ratio computes with rational numbers.
package ratio

import (
	"cmp"

	"partbook/api"
)

const (
	// maxMade is the greatest number that Make takes.
	maxMade = api.MaxRat * api.MaxDenom
	// maxSum is how many ratios a sum has at most.
	maxSum = 20000
)

// Valid reports whether a number is reduced, and within the limits.
func Valid(r api.Rat) bool {
	// The limits come first: reduce does not take the least int, and what it returns with an error would pass for 0 / 0.
	if !within(r) {
		return false
	}
	s, _ := reduce(r.N, r.D)
	return s == r
}

// Make returns the number n / d.
func Make(n, d int) (api.Rat, api.Errno) {
	if !between(n, -maxMade, maxMade) || !between(d, -maxMade, maxMade) {
		return api.Rat{}, api.ErrArg
	}
	return reduce(n, d)
}

// Add returns the sum of two numbers.
func Add(a, b api.Rat) (api.Rat, api.Errno) {
	return combine(a, b, func(a, b api.Rat) (int, int) { return a.N*b.D + b.N*a.D, a.D * b.D })
}

// Sub returns the difference of two numbers.
func Sub(a, b api.Rat) (api.Rat, api.Errno) {
	return combine(a, b, func(a, b api.Rat) (int, int) { return a.N*b.D - b.N*a.D, a.D * b.D })
}

// Mul returns the product of two numbers.
func Mul(a, b api.Rat) (api.Rat, api.Errno) {
	return combine(a, b, func(a, b api.Rat) (int, int) { return a.N * b.N, a.D * b.D })
}

// Div returns a divided by b.
func Div(a, b api.Rat) (api.Rat, api.Errno) {
	return combine(a, b, func(a, b api.Rat) (int, int) { return a.N * b.D, a.D * b.N })
}

// Compare returns -1, 0 or 1.
func Compare(a, b api.Rat) (int, api.Errno) {
	if !Valid(a) || !Valid(b) {
		return 0, api.ErrArg
	}
	return cmp.Compare(a.N*b.D, b.N*a.D), api.OK
}

// Sum returns the sum of numbers.
func Sum(l []api.Rat) (api.Rat, api.Errno) {
	if len(l) > maxSum {
		return api.Rat{}, api.ErrLimit
	}
	// All are looked at before any is added, for ErrArg comes before ErrRange.
	for _, r := range l {
		if !Valid(r) {
			return api.Rat{}, api.ErrArg
		}
	}
	return total(api.Rat{N: 0, D: 1}, l, Add)
}

// Floor returns the greatest integer that is not greater.
func Floor(a api.Rat) (int, api.Errno) {
	if !Valid(a) {
		return 0, api.ErrArg
	}
	n := a.N / a.D
	// The division cuts towards 0, which is upwards for a negative number.
	if a.N%a.D < 0 {
		n--
	}
	return n, api.OK
}

// combine returns what an operator makes of two valid ratios. It does not call Make, because the numbers before they are reduced fit into an int, but may be more than Make takes.
func combine(a, b api.Rat, operator func(a, b api.Rat) (n, d int)) (api.Rat, api.Errno) {
	if !Valid(a) || !Valid(b) {
		return api.Rat{}, api.ErrArg
	}
	return reduce(operator(a, b))
}

// total returns the first element with those of a list added to it, one after the other, up to the first error.
func total[T any](first T, l []T, add func(a, b T) (T, api.Errno)) (T, api.Errno) {
	sum := first
	for _, x := range l {
		next, e := add(sum, x)
		if e != api.OK {
			var none T
			return none, e
		}
		sum = next
	}
	return sum, api.OK
}

// reduce returns the valid ratio that is n / d, of which neither is the least int.
func reduce(n, d int) (api.Rat, api.Errno) {
	if d == 0 {
		return api.Rat{}, api.ErrArg
	}
	var divisor func(a, b int) int
	divisor = func(a, b int) int {
		if b == 0 {
			return a
		}
		return divisor(b, a%b)
	}
	common := divisor(n, d)
	// The common divisor gets the sign of d, so that the denominator is above 0.
	if (common < 0) != (d < 0) {
		common = -common
	}
	r := api.Rat{N: n / common, D: d / common}
	if !within(r) {
		return api.Rat{}, api.ErrRange
	}
	return r, api.OK
}

// within reports whether the numbers of a ratio are within the limits; it may still not be reduced.
func within(r api.Rat) bool {
	return between(r.N, -api.MaxRat, api.MaxRat) && between(r.D, 1, api.MaxDenom)
}

// between reports whether a number is from the least to the greatest one.
func between(n, least, greatest int) bool { return n >= least && n <= greatest }
