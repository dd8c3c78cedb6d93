package bits_test

import (
	"bytes"
	"math"
	"math/rand"
	"slices"
	"testing"

	"colonnade/api"
	"colonnade/bits"
)

// truths are for each index of b whether the bit is set, by the chapter's words.
func truths(b api.Bits) []bool {
	var l []bool
	for i := 0; i < b.N && i/8 < len(b.B); i++ {
		l = append(l, int(b.B[i/8])/power(i%8)%2 == 1)
	}
	return l
}

// vector is the normal bit vector of truths, by the chapter's words.
func vector(l []bool) api.Bits {
	sums := make([]int, (len(l)+7)/8)
	for i, yes := range l {
		if yes {
			sums[i/8] += power(i % 8)
		}
	}
	b := api.Bits{N: len(l)}
	for _, sum := range sums {
		b.B = append(b.B, byte(sum))
	}
	return b
}

// power is 2 to the power of n.
func power(n int) int {
	p := 1
	for range n {
		p *= 2
	}
	return p
}

// ones are n truths, all of them the same.
func ones(n int, yes bool) []bool {
	return slices.Repeat([]bool{yes}, n)
}

// lists are truths: all lists of up to five of them, and some of each length up to 40 and beside greater multiples of 8.
func lists() [][]bool {
	random := rand.New(rand.NewSource(7))
	var l [][]bool
	for n := range 6 {
		for number := range power(n) {
			one := make([]bool, n)
			for i := range one {
				one[i] = number/power(i)%2 == 1
			}
			l = append(l, one)
		}
	}
	for n := 6; n <= 40; n++ {
		l = append(l, ones(n, false), ones(n, true), some(random, n), some(random, n))
	}
	for _, n := range []int{63, 64, 65, 127, 128, 129, 255, 256, 257, 1000} {
		l = append(l, some(random, n), ones(n, true))
	}
	return l
}

// some are n truths, any.
func some(random *rand.Rand, n int) []bool {
	l := make([]bool, n)
	for i := range l {
		l[i] = random.Intn(3) == 0
	}
	return l
}

// odd are bit vectors that are not normal.
func odd() []api.Bits {
	l := []api.Bits{
		{N: 1}, {N: 8}, {N: math.MaxInt}, {N: math.MaxInt - 6}, {N: math.MaxInt - 7}, {N: -1}, {N: math.MinInt},
		{N: -1, B: []byte{}}, {N: -1, B: []byte{255}}, {N: -8, B: []byte{1}}, {N: math.MinInt, B: []byte{255, 255}},
		{N: 0, B: []byte{0}}, {N: 0, B: []byte{255}}, {N: 0, B: []byte{1, 2, 3}},
		{N: 8, B: []byte{5, 0}}, {N: 8, B: []byte{5, 9}}, {N: 3, B: []byte{5, 0}}, {N: 16, B: []byte{1, 2, 3}},
		{N: 9, B: []byte{129}}, {N: 17, B: []byte{129, 66}}, {N: 100, B: []byte{1, 2, 3}},
		{N: math.MaxInt, B: []byte{7}}, {N: math.MaxInt, B: []byte{255, 0, 255}},
	}
	for n := range 8 {
		for high := max(n, 1); high < 8; high++ {
			l = append(l, api.Bits{N: 8 + n, B: []byte{170, byte(power(high))}}, api.Bits{N: n, B: []byte{byte(1 + power(high)), 200}})
		}
		l = append(l, api.Bits{N: 16 + n, B: []byte{255, 255, 255, 255}})
	}
	return slices.DeleteFunc(l, func(b api.Bits) bool {
		return same(b, vector(truths(b)))
	})
}

// vectors are normal bit vectors, and such that are not.
func vectors() []api.Bits {
	var l []api.Bits
	for _, one := range lists() {
		l = append(l, vector(one))
	}
	return append(l, odd()...)
}

// indices are such as a bit vector with this many may have, or may not.
func indices(n int) []int {
	l := []int{math.MinInt, math.MinInt + 1, -65, -9, -8, -7, -2, -1, math.MaxInt, math.MaxInt - 1, math.MaxInt - 7, math.MaxInt - 8, api.MaxBytes}
	for i := range n + 18 {
		if n < 50 || i < 20 || i > n-20 || i%7 == 0 {
			l = append(l, i)
		}
	}
	return l
}

// same tells if both are the same, byte by byte.
func same(a, b api.Bits) bool {
	return a.N == b.N && bytes.Equal(a.B, b.B)
}

// expect tells if a bit vector is anything but the normal one of these truths.
func expect(t *testing.T, what string, got api.Bits, want []bool) {
	t.Helper()
	if !same(got, vector(want)) {
		t.Errorf("%s = %v; want %v", what, got, vector(want))
	}
}

// expectError tells if anything but an error and its zero value was returned.
func expectError(t *testing.T, what string, got api.Bits, e, want api.Errno) {
	t.Helper()
	if e != want || got.N != 0 || got.B != nil {
		t.Errorf("%s = %v, %d; want the error %d", what, got, e, want)
	}
}

func TestTheExample(t *testing.T) {
	b := bits.Of(true, false, true)
	if !same(b, api.Bits{N: 3, B: []byte{5}}) {
		t.Errorf("Of(true, false, true) = %v", b)
	}
	if n := bits.Count(b); n != 2 {
		t.Errorf("Count = %d", n)
	}
	if i, ok := bits.Pick(b, 1); i != 2 || !ok {
		t.Errorf("Pick(1) = %d, %t", i, ok)
	}
	if n := bits.Rank(b, 2); n != 1 {
		t.Errorf("Rank(2) = %d", n)
	}
	if n := bits.Not(b); !same(n, api.Bits{N: 3, B: []byte{2}}) {
		t.Errorf("Not = %v", n)
	}
}

func TestP71New(t *testing.T) {
	for _, x := range []struct{ n, want int }{
		{math.MinInt, 0}, {-9, 0}, {-1, 0}, {0, 0}, {1, 1}, {7, 7}, {8, 8}, {9, 9}, {16, 16}, {1001, 1001}, {api.MaxBytes/8 + 1, api.MaxBytes/8 + 1},
		{api.MaxBytes - 1, 1<<20 - 1}, {api.MaxBytes, 1 << 20}, {api.MaxBytes + 1, 1 << 20}, {8 * api.MaxBytes, 1 << 20}, {math.MaxInt, 1 << 20},
	} {
		b := bits.New(x.n)
		if b.N != x.want || !bytes.Equal(b.B, make([]byte, (x.want+7)/8)) {
			t.Errorf("New(%d) has N %d and %d bytes; want %d bits", x.n, b.N, len(b.B), x.want)
		}
	}
}

func TestP71Of(t *testing.T) {
	expect(t, "Of()", bits.Of(), nil)
	expect(t, "Of an empty list", bits.Of([]bool{}...), nil)
	for _, l := range lists() {
		expect(t, "Of", bits.Of(l...), l)
	}
	for i, b := range []byte{1, 2, 4, 8, 16, 32, 64, 128} {
		l := make([]bool, 11)
		l[i] = true
		if got := bits.Of(l...); !same(got, api.Bits{N: 11, B: []byte{b, 0}}) {
			t.Errorf("Of(%v) = %v", l, got)
		}
	}
}

func TestP71MaxBytesBoundsNewAlone(t *testing.T) {
	l := ones(api.MaxBytes+3, true)
	b := bits.Of(l...)
	expect(t, "Of more truths than MaxBytes", b, l)
	expect(t, "Not of them", bits.Not(b), ones(len(l), false))
	if e := bits.Check(b); e != api.OK || bits.Count(b) != len(l) || len(bits.List(b)) != len(l) {
		t.Errorf("Check, Count and List of %d bits: %d, %d, %d", len(l), e, bits.Count(b), len(bits.List(b)))
	}
	if j := bits.Join(b, b); j.N != 2*len(l) || bits.Count(j) != 2*len(l) {
		t.Errorf("Join of %d bits twice has N %d and %d set", len(l), j.N, bits.Count(j))
	}
}

func TestP71List(t *testing.T) {
	for _, b := range vectors() {
		if l := bits.List(b); !slices.Equal(l, truths(b)) {
			t.Errorf("List(%v) = %v; want %v", b, l, truths(b))
		}
	}
}

func TestP71Check(t *testing.T) {
	for _, l := range lists() {
		if e := bits.Check(vector(l)); e != api.OK {
			t.Errorf("Check(%v) = %d", vector(l), e)
		}
	}
	for _, b := range []api.Bits{{}, {B: []byte{}}, bits.New(0), bits.New(13), bits.New(api.MaxBytes)} {
		if e := bits.Check(b); e != api.OK {
			t.Errorf("Check of %d bits, none set, = %d", b.N, e)
		}
	}
	for _, b := range odd() {
		if e := bits.Check(b); e != api.ErrBits {
			t.Errorf("Check(%v) = %d; want ErrBits", b, e)
		}
	}
}

func TestP71Get(t *testing.T) {
	for _, b := range vectors() {
		l := truths(b)
		for _, i := range indices(len(l)) {
			want := i >= 0 && i < len(l) && l[i]
			if yes := bits.Get(b, i); yes != want {
				t.Errorf("Get(%v, %d) = %t", b, i, yes)
			}
		}
	}
}

func TestP71Set(t *testing.T) {
	for _, b := range vectors() {
		l := truths(b)
		for _, i := range indices(len(l)) {
			for _, yes := range []bool{false, true} {
				got, e := bits.Set(b, i, yes)
				if i < 0 || i >= len(l) {
					expectError(t, "Set of no index", got, e, api.ErrArg)
					continue
				}
				want := slices.Clone(l)
				want[i] = yes
				expect(t, "Set", got, want)
				if e != api.OK {
					t.Errorf("Set(%v, %d, %t) = %d", b, i, yes, e)
				}
			}
		}
	}
}
