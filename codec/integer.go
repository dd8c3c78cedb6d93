package codec

import (
	"math"

	"colonnade/api"
)

const (
	nought = 128 // the encoding of 0: what begins with a lesser byte is negative
	short  = 119 // the greatest integer that is one byte
	long   = 247 // the first byte of a longer integer less the number of bytes behind it
	widest = 8   // the most bytes behind the first one
	turned = 255 // combined with a byte by exclusive or, it inverts all bits
)

// mirror returns -n - 1. Unlike -n, it is an int64 for every n.
func mirror(n int64) int64 {
	return ^n
}

// beyond returns by how much n is greater than the least integer that is longer than one byte.
func beyond(n int64) uint64 {
	return uint64(n - short - 1)
}

// width returns how many bytes m needs, 1 if it is 0.
func width(m uint64) int {
	for n := range widest {
		if m>>(8*n) == 0 {
			return max(1, n)
		}
	}
	return widest
}

// appendInt appends the encoding of n to b.
func appendInt(b []byte, n int64) []byte {
	var turn byte
	if n < 0 {
		n, turn = mirror(n), turned
	}
	if n <= short {
		return append(b, byte(nought+n)^turn)
	}
	m := beyond(n)
	k := width(m)
	b = append(b, byte(long+k)^turn)
	for i := range k {
		b = append(b, byte(m>>(8*(k-1-i)))^turn)
	}
	return b
}

// takeInt returns the integer at the beginning of b, and how many bytes it has.
// ErrEnds if there are too few bytes; ErrForm if fewer would have sufficed, or the number is not an int64.
func takeInt(b []byte) (int64, int, api.Errno) {
	if len(b) == 0 {
		return 0, 0, api.ErrEnds
	}
	var turn byte
	if b[0] < nought {
		turn = turned
	}
	first := int(b[0] ^ turn)
	size := 1 + max(0, first-long)
	if len(b) < size {
		return 0, 0, api.ErrEnds
	}
	n := int64(first - nought)
	if size > 1 {
		m := joined(b[1:size], turn)
		if 1+width(m) < size || m > beyond(math.MaxInt64) {
			return 0, 0, api.ErrForm
		}
		n = int64(m) + short + 1
	}
	if turn == turned {
		n = mirror(n)
	}
	return n, size, api.OK
}

// joined returns the number that up to eight bytes are, the most significant one first, each combined with turn.
func joined(b []byte, turn byte) uint64 {
	var m uint64
	for _, c := range b {
		m = m<<8 | uint64(c^turn)
	}
	return m
}
