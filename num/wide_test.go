package num_test

import (
	"math"
	"math/big"
	"math/rand"
	"slices"
	"testing"

	"colonnade/api"
	"colonnade/num"
)

func exactWide(w api.Wide) *big.Int {
	z := new(big.Int).Lsh(big.NewInt(w.Hi), 64)
	return z.Add(z, new(big.Int).SetUint64(w.Lo))
}

// wrapped is z modulo 2^128, as a wide integer.
func wrapped(z *big.Int) api.Wide {
	lo := new(big.Int).And(z, new(big.Int).SetUint64(math.MaxUint64)).Uint64()
	hi := new(big.Int).Rsh(z, 64)
	hi.And(hi, new(big.Int).SetUint64(math.MaxUint64))
	return api.Wide{Hi: int64(hi.Uint64()), Lo: lo}
}

// wides are wide integers at and beside the ends of their range, of the int64s and of the halves.
func wides() []api.Wide {
	var l []api.Wide
	for _, hi := range []int64{math.MinInt64, math.MinInt64 + 1, -2, -1, 0, 1, 2, math.MaxInt64 - 1, math.MaxInt64} {
		for _, lo := range []uint64{0, 1, 2, 1<<63 - 1, 1 << 63, 1<<63 + 1, math.MaxUint64 - 1, math.MaxUint64} {
			l = append(l, api.Wide{Hi: hi, Lo: lo})
		}
	}
	return l
}

func TestP15WideOf(t *testing.T) {
	for _, n := range edges() {
		w := num.WideOf(n)
		if exactWide(w).Cmp(big.NewInt(n)) != 0 {
			t.Errorf("WideOf(%d) = %v", n, w)
		}
		if back, e := num.Narrow(w); back != n || e != api.OK {
			t.Errorf("Narrow(WideOf(%d)) = %d, %d", n, back, e)
		}
	}
}

func TestP15WideMul(t *testing.T) {
	for _, a := range edges() {
		for _, b := range edges() {
			exact := new(big.Int).Mul(big.NewInt(a), big.NewInt(b))
			if w := num.WideMul(a, b); exactWide(w).Cmp(exact) != 0 {
				t.Errorf("WideMul(%d, %d) = %v; want %s", a, b, w, exact)
			}
		}
	}
}

func TestP15WideAdd(t *testing.T) {
	if w := num.WideAdd(); w != (api.Wide{}) {
		t.Errorf("WideAdd() = %v", w)
	}
	if w := num.WideAdd([]api.Wide{}...); w != (api.Wide{}) {
		t.Errorf("WideAdd of an empty list = %v", w)
	}
	for _, a := range wides() {
		if w := num.WideAdd(a); w != a {
			t.Errorf("WideAdd(%v) = %v", a, w)
		}
		for _, b := range wides() {
			exact := new(big.Int).Add(exactWide(a), exactWide(b))
			if w := num.WideAdd(a, b); w != wrapped(exact) {
				t.Errorf("WideAdd(%v, %v) = %v; want %v", a, b, w, wrapped(exact))
			}
			exact.Add(exact, exactWide(a))
			if w := num.WideAdd(a, b, a); w != wrapped(exact) {
				t.Errorf("WideAdd(%v, %v, %v) = %v; want %v", a, b, a, w, wrapped(exact))
			}
		}
	}
}

func TestP15WideAddLeavesItsList(t *testing.T) {
	l := wides()
	before := slices.Clone(l)
	num.WideAdd(l...)
	if !slices.Equal(l, before) {
		t.Error("WideAdd has changed its arguments")
	}
}

func TestP15WideCmp(t *testing.T) {
	for _, a := range wides() {
		for _, b := range wides() {
			if c, want := num.WideCmp(a, b), exactWide(a).Cmp(exactWide(b)); c != want {
				t.Errorf("WideCmp(%v, %v) = %d; want %d", a, b, c, want)
			}
		}
	}
}

func TestP15Narrow(t *testing.T) {
	for _, w := range wides() {
		n, e := num.Narrow(w)
		expectBig(t, "Narrow", []int64{w.Hi, int64(w.Lo)}, n, e, exactWide(w))
	}
	for _, x := range []struct {
		w    api.Wide
		want int64
		e    api.Errno
	}{
		{api.Wide{Hi: 0, Lo: math.MaxInt64}, math.MaxInt64, api.OK}, {api.Wide{Hi: 0, Lo: 1 << 63}, 0, api.ErrRange},
		{api.Wide{Hi: -1, Lo: 1 << 63}, math.MinInt64, api.OK}, {api.Wide{Hi: -1, Lo: 1<<63 - 1}, 0, api.ErrRange},
		{api.Wide{Hi: 1, Lo: 0}, 0, api.ErrRange}, {api.Wide{Hi: -2, Lo: math.MaxUint64}, 0, api.ErrRange},
		{api.Wide{Hi: math.MinInt64, Lo: 0}, 0, api.ErrRange}, {api.Wide{Hi: math.MaxInt64, Lo: math.MaxUint64}, 0, api.ErrRange},
	} {
		if n, e := num.Narrow(x.w); n != x.want || e != x.e {
			t.Errorf("Narrow(%v) = %d, %d; want %d, %d", x.w, n, e, x.want, x.e)
		}
	}
}

// TestP18AnyOrder adds the same numbers in many orders: the sum is one and the same, and narrows exactly if the true sum does.
func TestP18AnyOrder(t *testing.T) {
	random := rand.New(rand.NewSource(18))
	pool := edges()
	for round := range 300 {
		numbers := make([]int64, round%40)
		for i := range numbers {
			numbers[i] = pool[random.Intn(len(pool))]
		}
		// Halves that cancel out make true sums that are int64s although sums in between are not.
		if round%2 == 0 {
			for _, n := range slices.Clone(numbers) {
				numbers = append(numbers, -1-n)
			}
		}
		exact := new(big.Int)
		var l []api.Wide
		for _, n := range numbers {
			exact.Add(exact, big.NewInt(n))
			l = append(l, num.WideOf(n))
		}
		for range 5 {
			random.Shuffle(len(l), func(i, j int) { l[i], l[j] = l[j], l[i] })
			w := num.WideAdd(l...)
			if exactWide(w).Cmp(exact) != 0 {
				t.Fatalf("the sum of %v is %v; want %s", numbers, w, exact)
			}
			cut := random.Intn(len(l) + 1)
			if parts := num.WideAdd(num.WideAdd(l[:cut]...), num.WideAdd(l[cut:]...)); parts != w {
				t.Fatalf("the sum of parts of %v is %v; want %v", numbers, parts, w)
			}
			n, e := num.Narrow(w)
			expectBig(t, "Narrow of the sum of", numbers, n, e, exact)
		}
	}
}

func TestP18BeyondInBetween(t *testing.T) {
	greatest, least := num.WideOf(math.MaxInt64), num.WideOf(math.MinInt64)
	for _, x := range []struct {
		l    []api.Wide
		want int64
		e    api.Errno
	}{
		{[]api.Wide{greatest, greatest, least, least}, -2, api.OK},
		{[]api.Wide{least, least, greatest, greatest}, -2, api.OK},
		{[]api.Wide{greatest, num.WideOf(1), num.WideOf(-1)}, math.MaxInt64, api.OK},
		{[]api.Wide{least, num.WideOf(-1), num.WideOf(1)}, math.MinInt64, api.OK},
		{[]api.Wide{greatest, num.WideOf(1)}, 0, api.ErrRange},
		{[]api.Wide{least, num.WideOf(-1)}, 0, api.ErrRange},
	} {
		if n, e := num.Narrow(num.WideAdd(x.l...)); n != x.want || e != x.e {
			t.Errorf("the sum of %v is %d, %d; want %d, %d", x.l, n, e, x.want, x.e)
		}
	}
}
