package pager

import (
	"slices"

	"colonnade/api"
)

const (
	linkSize  = 4 // bytes of the number of the following block
	pieceSize = api.BlockData - linkSize
)

// Put writes b into as many fresh blocks as it needs, at least one, and returns the first of them: ErrMade as Claim; ErrLong if b has more than MaxStream bytes; ErrFull if there are too few blocks; the error of Write, after which the blocks that were allocated remain fresh.
func (p *Pager) Put(b []byte) (int, api.Errno) {
	if !p.isMade() {
		return 0, api.ErrMade
	}
	if len(b) > api.MaxStream {
		return 0, api.ErrLong
	}
	pieces := [][]byte{nil}
	if len(b) > 0 {
		pieces = slices.Collect(slices.Chunk(b, pieceSize))
	}
	if len(pieces) > p.Room() {
		return 0, api.ErrFull
	}
	next := 0
	for _, piece := range slices.Backward(pieces) {
		n, e := p.add(next, piece)
		if e != api.OK {
			return 0, e
		}
		next = n
	}
	return next, api.OK
}

// add writes a piece of a stream into one more block, with the number of the following one, and returns the block: the errors of Alloc and of Write.
func (p *Pager) add(next int, piece []byte) (int, api.Errno) {
	n, e := p.Alloc()
	if e != api.OK {
		return 0, e
	}
	return n, p.Write(n, slices.Concat(little(uint32(next), linkSize), piece)...)
}

// Get returns the stream whose first block is given, and its blocks in order: the error of Read of a block; ErrCorrupt if one has no number of the following one, or that of a block that does not exist or was read already, or if there are more than MaxStream bytes.
func (p *Pager) Get(first int) ([]byte, []int, api.Errno) {
	var b []byte
	var l []int
	for n := first; ; {
		content, e := p.Read(n)
		if e != api.OK {
			return nil, nil, e
		}
		if len(content) < linkSize {
			return nil, nil, api.ErrCorrupt
		}
		l = append(l, n)
		b = append(b, content[linkSize:]...)
		n = int(number(content[:linkSize]))
		last := n == 0
		if len(b) > api.MaxStream || !last && (!p.exists(n) || slices.Contains(l, n)) {
			return nil, nil, api.ErrCorrupt
		}
		if last {
			return b, l, api.OK
		}
	}
}
