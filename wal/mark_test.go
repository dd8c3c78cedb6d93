package wal_test

import (
	"bytes"
	"math"
	"math/rand"
	"slices"
	"testing"

	"colonnade/api"
	"colonnade/wal"
)

// inside are numbers of generations and commits.
func inside() []int64 {
	return []int64{0, 1, 2, 119, 120, 375, 376, 65655, 65656, 1<<32 + 1, greatest - 1, greatest}
}

// outside are numbers that neither a generation nor a commit has.
func outside() []int64 {
	return []int64{-1, -2, -120, -121, math.MinInt64, greatest + 1, greatest + 2, 2 * greatest, math.MaxInt64}
}

// contents are data of marks, up to the longest.
func contents() [][]byte {
	var l [][]byte
	for _, n := range []int{0, 1, 2, 5, 119, 120, 511, 512, 513, 4096} {
		l = append(l, some(n, n), make([]byte, n))
	}
	return l
}

func TestP61Mark(t *testing.T) {
	for _, gen := range inside() {
		for _, seq := range inside() {
			for _, data := range contents() {
				got, e := wal.Mark(gen, seq, data)
				if e != api.OK || !bytes.Equal(got, markOf(gen, seq, data)) {
					t.Fatalf("Mark(%d, %d, %d bytes) = %v, %d", gen, seq, len(data), got, e)
				}
			}
		}
	}
}

func TestP61MarkByHand(t *testing.T) {
	got, e := wal.Mark(1, 120, []byte("123456789"))
	must(t, e)
	want := []byte{129, 248, 0, 137, 251, 0xE3, 0x06, 0x92, 0x83 - 120}
	if !bytes.Equal(got[:9], want) || !bytes.Equal(got[9:508], make([]byte, 499)) || len(got) != 512 {
		t.Errorf("the mark is %v", got)
	}
	s := sum(got[:508])
	if !bytes.Equal(got[508:], []byte{byte(s), byte(s >> 8), byte(s >> 16), byte(s >> 24)}) {
		t.Errorf("the mark ends with %v", got[508:])
	}
}

func TestP61MarkErrors(t *testing.T) {
	tooLong := make([]byte, api.MaxCommit+1)
	expect := func(gen, seq int64, data []byte) {
		t.Helper()
		if b, e := wal.Mark(gen, seq, data); b != nil || e != api.ErrArg {
			t.Errorf("Mark(%d, %d, %d bytes) = %d bytes, %d", gen, seq, len(data), len(b), e)
		}
	}
	for _, n := range outside() {
		expect(n, 0, nil)
		expect(0, n, nil)
		expect(greatest, n, some(9, 1))
		expect(n, greatest, some(9, 1))
		expect(n, n, tooLong)
	}
	expect(0, 0, tooLong)
	expect(0, 0, make([]byte, 2*api.MaxCommit))
	longest := some(api.MaxCommit, 1)
	b, e := wal.Mark(greatest, greatest, longest)
	if e != api.OK || !bytes.Equal(b, markOf(greatest, greatest, longest)) {
		t.Errorf("Mark of the greatest numbers: %d", e)
	}
}

func TestP61MarkSharesNoMemory(t *testing.T) {
	data := some(40, 1)
	a, _ := wal.Mark(1, 2, data)
	clear(a)
	b, _ := wal.Mark(1, 2, data)
	if !bytes.Equal(data, some(40, 1)) || !bytes.Equal(b, markOf(1, 2, data)) {
		t.Error("a mark shares memory")
	}
	before := slices.Clone(b)
	wal.Marked(b, 1, 2)
	if !bytes.Equal(b, before) {
		t.Error("Marked has changed its argument")
	}
}

// expectMarked tells if Marked does not answer what is wanted.
func expectMarked(t *testing.T, b []byte, gen, seq int64, length int, check uint32, ok bool) {
	t.Helper()
	n, s, yes := wal.Marked(b, gen, seq)
	if n != length || s != check || yes != ok {
		t.Fatalf("Marked(%v, %d, %d) = %d, %d, %t; want %d, %d, %t", b, gen, seq, n, s, yes, length, check, ok)
	}
}

// expectNoMark tells if b is a mark.
func expectNoMark(t *testing.T, b []byte, gen, seq int64) {
	t.Helper()
	expectMarked(t, b, gen, seq, 0, 0, false)
}

func TestP61Marked(t *testing.T) {
	for _, gen := range inside() {
		for _, seq := range inside() {
			expectMarked(t, markOf(gen, seq, some(9, 1)), gen, seq, 9, sum(some(9, 1)), true)
			for _, other := range append(inside(), outside()...) {
				if other != gen {
					expectNoMark(t, markOf(gen, seq, []byte("a")), other, seq)
				}
				if other != seq {
					expectNoMark(t, markOf(gen, seq, []byte("a")), gen, other)
				}
			}
		}
	}
	for _, data := range append(contents(), some(api.MaxCommit, 1)) {
		expectMarked(t, markOf(3, 4, data), 3, 4, len(data), sum(data), true)
	}
	expectNoMark(t, markOf(3, 4, nil), 4, 3)
}

func TestP61MarkedNumbersOutOfRange(t *testing.T) {
	for _, n := range outside() {
		expectNoMark(t, sector(n, 1, 5, 7), n, 1)
		expectNoMark(t, sector(1, n, 5, 7), 1, n)
		expectNoMark(t, sector(1, 1, n, 7), 1, 1)
		expectNoMark(t, sector(1, 1, 5, n), 1, 1)
	}
	expectMarked(t, sector(1, 1, api.MaxCommit, 7), 1, 1, api.MaxCommit, 7, true)
	for _, length := range []int64{-1, api.MaxCommit + 1, 1 << 31, 1 << 32, 1<<32 + 5} {
		expectNoMark(t, sector(1, 1, length, 7), 1, 1)
	}
	expectMarked(t, sector(1, 1, 5, math.MaxUint32), 1, 1, 5, math.MaxUint32, true)
	expectMarked(t, sector(1, 1, 5, 0), 1, 1, 5, 0, true)
	for _, check := range []int64{-1, 1 << 32, 1<<32 + 7, math.MinInt64 + 7} {
		expectNoMark(t, sector(1, 1, 5, check), 1, 1)
	}
}

func TestP61MarkedOtherLengths(t *testing.T) {
	b := markOf(1, 2, some(9, 1))
	for _, n := range []int{0, 1, 4, 300, 507, 509, 511} {
		expectNoMark(t, b[:n], 1, 2)
		expectNoMark(t, signed(b[:n]), 1, 2)
	}
	expectNoMark(t, nil, 1, 2)
	expectNoMark(t, append(slices.Clone(b), 0), 1, 2)
	expectNoMark(t, append(slices.Clone(b), b...), 1, 2)
	expectNoMark(t, signed(padded(b[:508], 509)), 1, 2)
	expectNoMark(t, make([]byte, 512), 0, 0)
	expectNoMark(t, signed(make([]byte, 508)), 0, 0)
	expectNoMark(t, slices.Repeat([]byte{255}, 512), 0, 0)
}

func TestP61MarkedOtherBytes(t *testing.T) {
	good := markOf(1, 2, some(9, 1))
	for i := range good {
		for bit := range 8 {
			b := slices.Clone(good)
			b[i] ^= 1 << bit
			expectNoMark(t, b, 1, 2)
			if i >= 13 && i < 508 {
				expectNoMark(t, signed(b[:508]), 1, 2)
			}
		}
	}
	turned := slices.Clone(good)
	slices.Reverse(turned[508:])
	expectNoMark(t, turned, 1, 2)
	random := rand.New(rand.NewSource(61))
	for range 2000 {
		b := make([]byte, 512)
		random.Read(b)
		expectNoMark(t, b, 1, 2)
		copy(b, good[:5+random.Intn(500)])
		expectNoMark(t, b, 1, 2)
	}
}

// joined is the sector that begins with these bytes.
func joined(l ...[]byte) []byte {
	return signed(padded(slices.Concat(l...), 508))
}

func TestP61MarkedOtherIntegers(t *testing.T) {
	one := integer(1)
	expectMarked(t, joined(one, one, integer(5), integer(7)), 1, 1, 5, 7, true)
	for _, b := range [][]byte{
		joined(one, one, integer(5)),
		joined(one, one),
		joined(one),
		joined(one, one, integer(5), integer(7), integer(0)),
		joined(one, one, integer(5), integer(7), []byte{0, 1}),
		joined(one, one, integer(5), []byte{249, 0, 7}),    // longer than the shortest
		joined(one, one, []byte{250, 0, 0, 5}, integer(7)), // likewise
		joined(one, []byte{255, 0, 0, 0, 0, 0, 0, 0, 1}, integer(5), integer(7)),
		joined([]byte{255, 255, 255, 255, 255, 255, 255, 255, 255}, one, integer(5), integer(7)),
		joined([]byte{0}, one, one, integer(5), integer(7)),
	} {
		for _, gen := range []int64{0, 1} {
			for _, seq := range []int64{0, 1} {
				expectNoMark(t, b, gen, seq)
			}
		}
	}
}

func TestP61MarkedBeforeTheEnd(t *testing.T) {
	// The last integer of a sector of which all others are long.
	b := markOf(greatest, greatest, some(api.MaxCommit, 2))
	expectMarked(t, b, greatest, greatest, api.MaxCommit, sum(some(api.MaxCommit, 2)), true)
	expectNoMark(t, b, greatest, greatest-1)
	expectNoMark(t, b, greatest-1, greatest)
}
