// Package num is layer 1: 64-bit integers that never wrap around, decimals, dates and 128-bit sums (shared/doc/01-num.md).
package num

import (
	"math"

	"colonnade/api"
)

// Add returns a + b, or ErrRange if that is not an int64.
func Add(a, b int64) (int64, api.Errno) {
	sum := a + b
	// A sum that wrapped around lies on the wrong side of a.
	if (sum > a) != (b > 0) {
		return 0, api.ErrRange
	}
	return sum, api.OK
}

// Sub returns a - b, or ErrRange if that is not an int64.
func Sub(a, b int64) (int64, api.Errno) {
	difference := a - b
	// A difference that wrapped around lies on the wrong side of a.
	if (difference < a) != (b > 0) {
		return 0, api.ErrRange
	}
	return difference, api.OK
}

// Mul returns a * b, or ErrRange if that is not an int64.
func Mul(a, b int64) (int64, api.Errno) {
	return Narrow(WideMul(a, b))
}

// Neg returns -a, or ErrRange if that is not an int64.
func Neg(a int64) (int64, api.Errno) {
	if a == math.MinInt64 {
		return 0, api.ErrRange
	}
	return -a, api.OK
}

// Div returns a / b, truncated towards 0: ErrZero if b is 0, ErrRange if the quotient is not an int64.
func Div(a, b int64) (int64, api.Errno) {
	if b == 0 {
		return 0, api.ErrZero
	}
	if a == math.MinInt64 && b == -1 {
		return 0, api.ErrRange
	}
	return a / b, api.OK
}

// Rem returns what remains of a after the truncated division by b: ErrZero if b is 0.
func Rem(a, b int64) (int64, api.Errno) {
	if b == 0 {
		return 0, api.ErrZero
	}
	return a % b, api.OK
}
