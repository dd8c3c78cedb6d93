package num

import "colonnade/api"

// Pow10 returns 10 to the power of n, or ErrArg if n is not from 0 to MaxScale.
func Pow10(n int) (int64, api.Errno) {
	if !isScale(n) {
		return 0, api.ErrArg
	}
	return power(n), api.OK
}

// Fits reports whether v may be the digits of a decimal.
func Fits(v int64) bool {
	return -api.MaxDec <= v && v <= api.MaxDec
}

// Scale converts the decimal v from one number of fractional digits to another, rounding halves away from 0.
// ErrArg if from or to is no scale; ErrRange if v or the result does not fit.
func Scale(v int64, from, to int) (int64, api.Errno) {
	if !isScale(from) || !isScale(to) {
		return 0, api.ErrArg
	}
	if !Fits(v) {
		return 0, api.ErrRange
	}
	if to < from {
		return divideRounded(v, power(from-to)), api.OK
	}
	scaled, e := Mul(v, power(to-from))
	if e != api.OK || !Fits(scaled) {
		return 0, api.ErrRange
	}
	return scaled, api.OK
}

func isScale(n int) bool {
	return 0 <= n && n <= api.MaxScale
}

// power returns 10 to the power of n, which must be a scale.
func power(n int) int64 {
	p := int64(1)
	for range n {
		p *= 10
	}
	return p
}

// divideRounded divides a decimal that fits by a power of ten: twice the remainder cannot overflow.
func divideRounded(v, by int64) int64 {
	quotient, twice := v/by, 2*(v%by)
	if twice >= by {
		return quotient + 1
	}
	if twice <= -by {
		return quotient - 1
	}
	return quotient
}
