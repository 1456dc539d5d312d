// Package limit says which numbers are within limits, for all layers that have them.
package limit

import "partbook/api"

// Between reports whether a number is from the least to the greatest one.
func Between(n, least, greatest int) bool { return n >= least && n <= greatest }

// IsID reports whether a number can be an ID.
func IsID(n int) bool { return Between(n, 1, api.MaxID) }
