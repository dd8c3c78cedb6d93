package codec

import (
	"bytes"

	"colonnade/api"
)

// What stands behind a 0.
const (
	over = 0 // the byte string is over
	zero = 1 // the 0 is one of the byte string
)

// sizeBytes returns how many bytes the encoding of the byte string s has.
func sizeBytes(s []byte) int {
	return len(s) + bytes.Count(s, []byte{0}) + 2
}

// appendBytes appends the encoding of the byte string s to b.
func appendBytes(b, s []byte) []byte {
	for _, c := range s {
		b = append(b, c)
		if c == 0 {
			b = append(b, zero)
		}
	}
	return append(b, 0, over)
}

// takeBytes returns the byte string at the beginning of b, and how many bytes its encoding has.
// For the first problem: ErrForm behind a 0 that is neither over nor zero; ErrEnds if the byte string is never over.
func takeBytes(b []byte) ([]byte, int, api.Errno) {
	var s []byte
	for i := 0; i < len(b); i++ {
		if b[i] != 0 {
			s = append(s, b[i])
			continue
		}
		i++
		switch {
		case i == len(b):
			return nil, 0, api.ErrEnds
		case b[i] == over:
			return s, i + 1, api.OK
		case b[i] == zero:
			s = append(s, 0)
		default:
			return nil, 0, api.ErrForm
		}
	}
	return nil, 0, api.ErrEnds
}
