package num

import (
	"cmp"
	"math/bits"

	"colonnade/api"
)

// WideOf returns n as a wide integer.
func WideOf(n int64) api.Wide {
	return api.Wide{Hi: signs(n), Lo: uint64(n)}
}

// WideMul returns a * b, which a wide integer always holds.
func WideMul(a, b int64) api.Wide {
	hi, lo := bits.Mul64(uint64(a), uint64(b))
	// Taken as unsigned, a negative factor is 2^64 too great, so the product is too great by 2^64 times the other factor.
	if a < 0 {
		hi -= uint64(b)
	}
	if b < 0 {
		hi -= uint64(a)
	}
	return api.Wide{Hi: int64(hi), Lo: lo}
}

// WideAdd returns the sum of all elements modulo 2^128, 0 if there are none.
func WideAdd(l ...api.Wide) api.Wide {
	var hi, lo, carry uint64
	for _, w := range l {
		lo, carry = bits.Add64(lo, w.Lo, 0)
		hi += uint64(w.Hi) + carry
	}
	return api.Wide{Hi: int64(hi), Lo: lo}
}

// WideCmp returns -1, 0 or 1 if a is less than, equal to or greater than b.
func WideCmp(a, b api.Wide) int {
	return cmp.Or(cmp.Compare(a.Hi, b.Hi), cmp.Compare(a.Lo, b.Lo))
}

// Narrow returns w as an int64, or ErrRange if it is not one.
func Narrow(w api.Wide) (int64, api.Errno) {
	n := int64(w.Lo)
	if w.Hi != signs(n) {
		return 0, api.ErrRange
	}
	return n, api.OK
}

// signs returns 64 copies of the sign bit of n.
func signs(n int64) int64 {
	return n >> 63
}
