// Package duration says what durations are, for all layers that have them, and counts them in units.
package duration

import (
	"partbook/api"
	"partbook/ratio"
)

// Valid reports whether a number is a duration.
func Valid(r api.Rat) bool {
	return ratio.Valid(r) && r.N >= 0 && api.Division%r.D == 0
}

// Units returns how many units a duration has, or the opposite of one. Of these 1680 are a quarter, so that they are integers, which are added and compared without errors.
func Units(r api.Rat) int { return r.N * (api.Division / r.D) }

// Quarters returns the ratio that has so many units.
func Quarters(units int) (api.Rat, api.Errno) { return ratio.Make(units, api.Division) }
