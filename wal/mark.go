package wal

import (
	"bytes"
	"math"

	"colonnade/api"
	"colonnade/codec"
)

const (
	maxNumber = 1 << 40 // the greatest generation, and the greatest number of a commit
	sumSize   = 4       // bytes of a checksum
)

// Mark returns the mark of a commit: ErrArg if gen or seq is out of range, or data is longer than MaxCommit bytes.
func Mark(gen, seq int64, data []byte) ([]byte, api.Errno) {
	if !inRange(gen, maxNumber) || !inRange(seq, maxNumber) || len(data) > api.MaxCommit {
		return nil, api.ErrArg
	}
	return sector(gen, seq, int64(len(data)), int64(codec.Sum(data))), api.OK
}

// Marked returns the length and the checksum that the mark b tells of a commit's data, and whether b is a mark of this generation and number.
func Marked(b []byte, gen, seq int64) (int, uint32, bool) {
	length, sum := told(b)
	valid := inRange(gen, maxNumber) && inRange(seq, maxNumber) &&
		inRange(length, api.MaxCommit) && inRange(sum, math.MaxUint32)
	if !valid || !bytes.Equal(b, sector(gen, seq, length, sum)) {
		return 0, 0, false
	}
	return int(length), uint32(sum), true
}

// told returns the last two of the four integers with which b begins. Where there are none, they are 0.
func told(b []byte) (length, sum int64) {
	var l [4]int64
	r := codec.NewReader(b[:min(api.Sector, len(b))])
	for i := range l {
		l[i], _ = r.Int()
	}
	return l[2], l[3]
}

// sector returns the sector that begins with the integers of a mark.
func sector(gen, seq, length, sum int64) []byte {
	b := make([]byte, api.Sector)
	copy(b, codec.Row(gen, seq, length, sum))
	end := api.Sector - sumSize
	all := codec.Sum(b[:end])
	for i := range sumSize {
		b[end+i] = byte(all >> (8 * i))
	}
	return b
}

// inRange reports whether n is from 0 to greatest.
func inRange(n, greatest int64) bool {
	return 0 <= n && n <= greatest
}
