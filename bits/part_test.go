package bits_test

import (
	"math"
	"slices"
	"testing"

	"colonnade/api"
	"colonnade/bits"
)

func TestP73Cut(t *testing.T) {
	for _, b := range vectors() {
		l := truths(b)
		if len(l) > 70 {
			continue
		}
		for _, from := range indices(len(l)) {
			for _, n := range indices(len(l)) {
				first := min(max(from, 0), len(l))
				want := l[first : first+min(max(n, 0), len(l)-first)]
				if got := bits.Cut(b, from, n); !same(got, vector(want)) {
					t.Fatalf("Cut(%v, %d, %d) = %v; want %v", b, from, n, got, vector(want))
				}
			}
		}
	}
}

func TestP73CutNamed(t *testing.T) {
	b := api.Bits{N: 12, B: []byte{0xF1, 0x0A}}
	for _, x := range []struct {
		from, n int
		want    api.Bits
	}{
		{0, 12, b}, {-3, 5, api.Bits{N: 5, B: []byte{0x11}}}, {-3, -5, api.Bits{}}, {4, -1, api.Bits{}}, {4, 0, api.Bits{}},
		{4, 8, api.Bits{N: 8, B: []byte{0xAF}}}, {4, 5, api.Bits{N: 5, B: []byte{0x0F}}}, {7, 9, api.Bits{N: 5, B: []byte{0x15}}},
		{11, 1, api.Bits{N: 1, B: []byte{1}}}, {12, 1, api.Bits{}}, {13, math.MaxInt, api.Bits{}}, {math.MaxInt, math.MaxInt, api.Bits{}},
		{9, math.MaxInt, api.Bits{N: 3, B: []byte{5}}}, {math.MinInt, math.MaxInt, b}, {math.MaxInt, 1, api.Bits{}},
	} {
		if got := bits.Cut(b, x.from, x.n); !same(got, x.want) {
			t.Errorf("Cut(%v, %d, %d) = %v; want %v", b, x.from, x.n, got, x.want)
		}
	}
}

func TestP73Join(t *testing.T) {
	expect(t, "Join()", bits.Join(), nil)
	expect(t, "Join of an empty list", bits.Join([]api.Bits{}...), nil)
	all := vectors()
	for _, a := range all {
		expect(t, "Join of one", bits.Join(a), truths(a))
		for _, b := range all {
			expect(t, "Join of two", bits.Join(a, b), slices.Concat(truths(a), truths(b)))
		}
	}
	var want []bool
	for _, b := range all {
		want = append(want, truths(b)...)
	}
	expect(t, "Join of all", bits.Join(all...), want)
}

func TestP73Same(t *testing.T) {
	all := vectors()
	for _, a := range all {
		for _, b := range all {
			if yes := bits.Same(a, b); yes != slices.Equal(truths(a), truths(b)) {
				t.Errorf("Same(%v, %v) = %t", a, b, yes)
			}
		}
	}
	for _, l := range lists() {
		for i := range l {
			other := slices.Clone(l)
			other[i] = !other[i]
			if bits.Same(vector(l), vector(other)) {
				t.Errorf("Same of %v and %v", l, other)
			}
		}
		if longer := append(slices.Clone(l), false); bits.Same(vector(l), vector(longer)) || bits.Same(vector(longer), vector(l)) {
			t.Errorf("Same of %v and %v", l, longer)
		}
	}
}

func TestP76PartsAreJoined(t *testing.T) {
	for _, b := range vectors() {
		n := len(truths(b))
		for _, at := range indices(n) {
			if whole := bits.Join(bits.Cut(b, 0, at), bits.Cut(b, at, n)); !same(whole, vector(truths(b))) || !bits.Same(whole, b) {
				t.Errorf("%v cut at %d and joined = %v", b, at, whole)
			}
		}
		for _, width := range []int{1, 3, 8, 13, 64} {
			var parts []api.Bits
			for at := 0; at < n; at += width {
				parts = append(parts, bits.Cut(b, at, width))
			}
			expect(t, "all parts joined", bits.Join(parts...), truths(b))
		}
	}
}
