package num_test

import (
	"math"
	"math/big"
	"testing"

	"colonnade/api"
	"colonnade/num"
)

func bigPower(n int) *big.Int {
	return new(big.Int).Exp(big.NewInt(10), big.NewInt(int64(n)), nil)
}

func TestP12Pow10(t *testing.T) {
	for n := range api.MaxScale + 1 {
		p, e := num.Pow10(n)
		expectBig(t, "Pow10", []int64{int64(n)}, p, e, bigPower(n))
	}
	for _, n := range []int{-1, math.MinInt, api.MaxScale + 1, math.MaxInt} {
		if p, e := num.Pow10(n); p != 0 || e != api.ErrArg {
			t.Errorf("Pow10(%d) = %d, %d; want 0, ErrArg", n, p, e)
		}
	}
}

func TestP12Fits(t *testing.T) {
	for _, x := range []struct {
		v    int64
		want bool
	}{
		{0, true}, {-1, true}, {api.MaxDec, true}, {-api.MaxDec, true},
		{api.MaxDec + 1, false}, {-api.MaxDec - 1, false}, {math.MaxInt64, false}, {math.MinInt64, false},
	} {
		if got := num.Fits(x.v); got != x.want {
			t.Errorf("Fits(%d) = %v", x.v, got)
		}
	}
}

// exactScale is the exact result of Scale, rounded by adding half a unit to the magnitude.
func exactScale(v int64, from, to int) *big.Int {
	if to >= from {
		return new(big.Int).Mul(big.NewInt(v), bigPower(to-from))
	}
	unit := bigPower(from - to)
	m := new(big.Int).Abs(big.NewInt(v))
	m.Mul(m, big.NewInt(2)).Add(m, unit).Quo(m, unit.Mul(unit, big.NewInt(2)))
	if v < 0 {
		m.Neg(m)
	}
	return m
}

func TestP12Scale(t *testing.T) {
	for _, v := range edges() {
		for from := range api.MaxScale + 1 {
			for to := range api.MaxScale + 1 {
				want, wantErr := int64(0), api.ErrRange
				if exact := exactScale(v, from, to); num.Fits(v) && exact.IsInt64() && num.Fits(exact.Int64()) {
					want, wantErr = exact.Int64(), api.OK
				}
				if n, e := num.Scale(v, from, to); n != want || e != wantErr {
					t.Fatalf("Scale(%d, %d, %d) = %d, %d; want %d, %d", v, from, to, n, e, want, wantErr)
				}
			}
		}
	}
}

func TestP12ScaleNamed(t *testing.T) {
	for _, x := range []struct {
		v        int64
		from, to int
		want     int64
		e        api.Errno
	}{
		{125, 2, 1, 13, api.OK}, {-125, 2, 1, -13, api.OK},
		{124, 2, 1, 12, api.OK}, {-124, 2, 1, -12, api.OK},
		{49, 2, 0, 0, api.OK}, {50, 2, 0, 1, api.OK}, {-49, 2, 0, 0, api.OK}, {-50, 2, 0, -1, api.OK},
		{api.MaxDec, 18, 0, 1, api.OK}, {-api.MaxDec, 18, 0, -1, api.OK}, {api.MaxDec, 1, 0, 100_000_000_000_000_000, api.OK},
		{api.MaxDec, 5, 5, api.MaxDec, api.OK}, {api.MaxDec, 0, 1, 0, api.ErrRange},
		{99_999_999_999_999_999, 0, 1, 999_999_999_999_999_990, api.OK}, {100_000_000_000_000_000, 0, 1, 0, api.ErrRange},
		{1, 0, 18, 0, api.ErrRange}, {0, 0, 18, 0, api.OK}, {9, 1, 18, 900_000_000_000_000_000, api.OK},
		{api.MaxDec + 1, 3, 2, 0, api.ErrRange}, {-api.MaxDec - 1, 3, 3, 0, api.ErrRange}, {math.MinInt64, 18, 0, 0, api.ErrRange},
		// A scale that is none is told before a number that does not fit.
		{1, -1, 0, 0, api.ErrArg}, {1, 0, -1, 0, api.ErrArg}, {1, 19, 0, 0, api.ErrArg}, {1, 0, 19, 0, api.ErrArg},
		{math.MinInt64, 19, 0, 0, api.ErrArg}, {math.MaxInt64, 0, math.MinInt, 0, api.ErrArg}, {1, math.MaxInt, math.MinInt, 0, api.ErrArg},
	} {
		if n, e := num.Scale(x.v, x.from, x.to); n != x.want || e != x.e {
			t.Errorf("Scale(%d, %d, %d) = %d, %d; want %d, %d", x.v, x.from, x.to, n, e, x.want, x.e)
		}
	}
}
