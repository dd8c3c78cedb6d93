package pager

import (
	"bytes"

	"colonnade/api"
	"colonnade/codec"
)

const (
	lengthSize = 2 // bytes of the length of a block's data
	sumSize    = 4 // bytes of a checksum
)

// Seal returns the bytes of a block with the data b: ErrLong if it has more than BlockData bytes.
func Seal(b []byte) ([]byte, api.Errno) {
	if len(b) > api.BlockData {
		return nil, api.ErrLong
	}
	block := make([]byte, api.Block)
	copy(block, little(uint32(len(b)), lengthSize))
	copy(block[lengthSize:], b)
	sign(block)
	return block, api.OK
}

// Unseal returns the data of a block whose bytes are b: ErrArg if these are not as many as a block has; ErrCorrupt if Seal does not return them for any data.
func Unseal(b []byte) ([]byte, api.Errno) {
	if len(b) != api.Block {
		return nil, api.ErrArg
	}
	n := int(number(b[:lengthSize]))
	if n > api.BlockData {
		return nil, api.ErrCorrupt
	}
	content := bytes.Clone(b[lengthSize : lengthSize+n])
	if block, _ := Seal(content); !bytes.Equal(block, b) {
		return nil, api.ErrCorrupt
	}
	return content, api.OK
}

// Write writes b into the block n: ErrMade as Claim; ErrArg if it is not a block of data; ErrKept if it is not fresh; the errors of Seal and of the disk's Write.
func (p *Pager) Write(n int, b ...byte) api.Errno {
	switch {
	case !p.isMade():
		return api.ErrMade
	case !p.exists(n):
		return api.ErrArg
	case p.states[n] != fresh:
		return api.ErrKept
	}
	block, e := Seal(b)
	if e != api.OK {
		return e
	}
	return p.disk.Write(api.Main, api.Block*n, block...)
}

// Read returns the data of the block n: ErrMade as Claim; ErrArg if it is not a block of data; the error of the disk's Read; ErrCorrupt if the block is not as Write writes one.
func (p *Pager) Read(n int) ([]byte, api.Errno) {
	switch {
	case !p.isMade():
		return nil, api.ErrMade
	case !p.exists(n):
		return nil, api.ErrArg
	}
	b, e := p.disk.Read(api.Main, api.Block*n, api.Block)
	if e != api.OK {
		return nil, e
	}
	if len(b) < api.Block {
		return nil, api.ErrCorrupt
	}
	return Unseal(b)
}

// sign puts the checksum of all bytes but the last four into these.
func sign(b []byte) {
	end := len(b) - sumSize
	copy(b[end:], little(codec.Sum(b[:end]), sumSize))
}

// little returns the lowest bytes of m, the least significant one first.
func little(m uint32, size int) []byte {
	b := make([]byte, size)
	for i := range b {
		b[i] = byte(m >> (8 * i))
	}
	return b
}

// number returns the number that up to four bytes are, the least significant one first.
func number(b []byte) uint32 {
	var m uint32
	for i, c := range b {
		m |= uint32(c) << (8 * i)
	}
	return m
}
