package bits

import (
	"iter"
	"math/bits"

	"colonnade/api"
)

// And returns for each index whether the bit is set in all elements: ErrArg if there are none, or two have different numbers of indices.
func And(l ...api.Bits) (api.Bits, api.Errno) {
	return combined(l, func(x, y byte) byte { return x & y })
}

// Or returns for each index whether the bit is set in at least one element: ErrArg as And.
func Or(l ...api.Bits) (api.Bits, api.Errno) {
	return combined(l, func(x, y byte) byte { return x | y })
}

// Not returns for each index of b whether the bit is not set.
func Not(b api.Bits) api.Bits {
	n := normal(b)
	for i, c := range n.B {
		n.B[i] = ^c
	}
	return normal(n)
}

// Count returns how many bits of b are set.
func Count(b api.Bits) int {
	return Rank(b, size(b))
}

// Rank returns how many bits of b with an index below i are set.
func Rank(b api.Bits, i int) int {
	n := 0
	for _, c := range Cut(b, 0, i).B {
		n += bits.OnesCount8(c)
	}
	return n
}

// Pick returns the index of the k-th set bit of b, counted from 0, and whether there is one.
func Pick(b api.Bits, k int) (int, bool) {
	n := 0
	for i := range All(b) {
		if n == k {
			return i, true
		}
		n++
	}
	return 0, false
}

// All yields the indices of the bits that are set in b at this call, increasing.
func All(b api.Bits) iter.Seq[int] {
	b = normal(b)
	return func(yield func(int) bool) {
		for at, c := range b.B {
			for i := 8 * at; c != 0; i, c = i+1, c>>1 {
				if c&1 == 1 && !yield(i) {
					return
				}
			}
		}
	}
}

// combined returns the elements as one, byte by byte, or ErrArg if there are none, or two have different numbers of indices.
func combined(l []api.Bits, of func(x, y byte) byte) (api.Bits, api.Errno) {
	if len(l) == 0 {
		return api.Bits{}, api.ErrArg
	}
	all := normal(l[0])
	for _, b := range l[1:] {
		b = normal(b)
		if b.N != all.N {
			return api.Bits{}, api.ErrArg
		}
		for i, c := range b.B {
			all.B[i] = of(all.B[i], c)
		}
	}
	return all, api.OK
}
