package bits

import (
	"bytes"

	"colonnade/api"
)

// Cut returns the bits of b from an index on, n of them, or as many as there are; a negative from or n counts as 0.
func Cut(b api.Bits, from, n int) api.Bits {
	from = min(max(from, 0), size(b))
	part := cleared(min(max(n, 0), size(b)-from))
	rest, shift := b.B[from/8:], from%8
	for i := range part.B {
		part.B[i] = rest[i] >> shift
		if i+1 < len(rest) {
			part.B[i] |= rest[i+1] << (8 - shift)
		}
	}
	return normal(part)
}

// Join returns all bits of the elements, one element behind the other.
func Join(l ...api.Bits) api.Bits {
	n := 0
	for _, b := range l {
		n += size(b)
	}
	all, from := cleared(n), 0
	for _, b := range l {
		for i := range All(b) {
			put(all, from+i, true)
		}
		from += size(b)
	}
	return all
}

// Same reports whether a and b have equally many indices and the same bits set.
func Same(a, b api.Bits) bool {
	a, b = normal(a), normal(b)
	return a.N == b.N && bytes.Equal(a.B, b.B)
}
