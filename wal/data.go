package wal

import (
	"bytes"
	"iter"

	"colonnade/api"
	"colonnade/codec"
)

// commitsOf yields the commits with which a file begins, and where each of them ends.
func commitsOf(file []byte, gen int64) iter.Seq2[[][]byte, int] {
	return func(yield func([][]byte, int) bool) {
		end := 0
		for seq := int64(0); ; seq++ {
			records, size, ok := firstOf(file[end:], gen, seq)
			if !ok {
				return
			}
			end += size
			if !yield(records, end) {
				return
			}
		}
	}
}

// firstOf returns the records of the commit with which b begins, and how many bytes it has, and whether there is one.
func firstOf(b []byte, gen, seq int64) ([][]byte, int, bool) {
	if len(b) < api.Sector {
		return nil, 0, false
	}
	length, sum, ok := Marked(b[:api.Sector], gen, seq)
	size := api.Sector + sectors(length)
	if !ok || size > len(b) {
		return nil, 0, false
	}
	data, rest := b[api.Sector:api.Sector+length], b[api.Sector+length:size]
	if codec.Sum(data) != sum || bytes.Count(rest, []byte{0}) < len(rest) {
		return nil, 0, false
	}
	records, ok := decode(data)
	return records, size, ok
}

// encode returns the data of a commit, and whether one may have these records.
func encode(records [][]byte) ([]byte, bool) {
	if !mayHave(int64(len(records))) {
		return nil, false
	}
	w := codec.NewWriter()
	w.Int(int64(len(records)))
	for _, r := range records {
		if e := w.Bytes(r); e != api.OK || w.Len() > api.MaxCommit {
			return nil, false
		}
	}
	return w.Out(), true
}

// decode returns the records whose data b is, and whether it is that of a commit.
func decode(b []byte) ([][]byte, bool) {
	r := codec.NewReader(b)
	n, e := r.Int()
	if e != api.OK || !mayHave(n) {
		return nil, false
	}
	records := make([][]byte, n)
	for i := range records {
		if records[i], e = r.Bytes(); e != api.OK {
			return nil, false
		}
	}
	return records, r.End() == api.OK
}

// mayHave reports whether a commit may have n records.
func mayHave(n int64) bool {
	return 1 <= n && n <= api.MaxRecords
}

// sectors returns how many bytes the sectors have that n bytes need.
func sectors(n int) int {
	return (n + api.Sector - 1) / api.Sector * api.Sector
}

// padded returns data in whole sectors.
func padded(data []byte) []byte {
	b := make([]byte, sectors(len(data)))
	copy(b, data)
	return b
}

// cloned returns records that share no memory with these.
func cloned(records [][]byte) [][]byte {
	l := make([][]byte, len(records))
	for i, r := range records {
		l[i] = bytes.Clone(r)
	}
	return l
}
