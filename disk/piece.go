package disk

import (
	"bytes"

	"colonnade/api"
)

// piece is a change of a file that is not durable.
type piece interface {
	// apply returns what b becomes by the change, and may use its memory.
	apply(b []byte) []byte
}

// patch is bytes at an offset, within one sector.
type patch struct {
	at int
	b  []byte
}

func (p patch) apply(b []byte) []byte {
	if end := p.at + len(p.b); len(b) < end {
		b = append(b, make([]byte, end-len(b))...)
	}
	copy(b[p.at:], p.b)
	return b
}

// cut is a truncation to a size.
type cut struct {
	size int
}

func (c cut) apply(b []byte) []byte {
	return b[:min(c.size, len(b))]
}

// patches returns the pieces of a copy of b that is written at an offset: a part for each sector that it touches.
func patches(at int, b []byte) []piece {
	var l []piece
	for b = bytes.Clone(b); len(b) > 0; {
		n := min(len(b), api.Sector-at%api.Sector)
		l = append(l, patch{at, b[:n]})
		at, b = at+n, b[n:]
	}
	return l
}

// pending is what the method of a piece does, and the file that it does it to.
type pending struct {
	file  int
	apply func(b []byte) []byte
}
