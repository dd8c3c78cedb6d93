package num_test

import (
	"math"
	"math/big"
	"testing"

	"colonnade/api"
	"colonnade/num"
)

// edges are integers at and beside every limit that the chapter names, least and greatest first.
func edges() []int64 {
	l := []int64{math.MinInt64, math.MaxInt64, 0}
	around := []int64{1 << 31, 1 << 32, 3037000499, api.MaxDec, -api.MinDay, api.MaxDay}
	for p, n := int64(1), 0; n <= api.MaxScale; n++ {
		around = append(around, p, 5*(p/10))
		p *= 10
	}
	for n := range 63 {
		around = append(around, 1<<n)
	}
	for _, v := range around {
		for _, d := range []int64{-1, 0, 1} {
			l = append(l, v+d, -v-d)
		}
	}
	for d := range int64(4) {
		l = append(l, math.MinInt64+d, math.MaxInt64-d)
	}
	return l
}

// expectBig checks a result against the exact one: the number if it is an int64, otherwise ErrRange and 0.
func expectBig(t *testing.T, what string, args []int64, n int64, e api.Errno, exact *big.Int) {
	t.Helper()
	want, wantErr := int64(0), api.ErrRange
	if exact.IsInt64() {
		want, wantErr = exact.Int64(), api.OK
	}
	if n != want || e != wantErr {
		t.Errorf("%s%v = %d, %d; want %d, %d", what, args, n, e, want, wantErr)
	}
}

type binary func(a, b int64) (int64, api.Errno)

func TestP11Binary(t *testing.T) {
	for _, op := range []struct {
		name  string
		got   binary
		exact func(z, a, b *big.Int) *big.Int
	}{
		{"Add", num.Add, (*big.Int).Add},
		{"Sub", num.Sub, (*big.Int).Sub},
		{"Mul", num.Mul, (*big.Int).Mul},
		{"Div", num.Div, (*big.Int).Quo},
		{"Rem", num.Rem, (*big.Int).Rem},
	} {
		divides := op.name == "Div" || op.name == "Rem"
		for _, a := range edges() {
			for _, b := range edges() {
				n, e := op.got(a, b)
				if divides && b == 0 {
					if n != 0 || e != api.ErrZero {
						t.Errorf("%s(%d, 0) = %d, %d; want 0, ErrZero", op.name, a, n, e)
					}
					continue
				}
				expectBig(t, op.name, []int64{a, b}, n, e, op.exact(new(big.Int), big.NewInt(a), big.NewInt(b)))
			}
		}
	}
}

func TestP11Neg(t *testing.T) {
	for _, a := range edges() {
		n, e := num.Neg(a)
		expectBig(t, "Neg", []int64{a}, n, e, new(big.Int).Neg(big.NewInt(a)))
	}
}

func TestP11Named(t *testing.T) {
	const least, greatest = math.MinInt64, math.MaxInt64
	for _, x := range []struct {
		name string
		f    binary
		a, b int64
		want int64
		e    api.Errno
	}{
		{"Add", num.Add, greatest, 1, 0, api.ErrRange},
		{"Add", num.Add, least, -1, 0, api.ErrRange},
		{"Add", num.Add, least, greatest, -1, api.OK},
		{"Sub", num.Sub, least, 1, 0, api.ErrRange},
		{"Sub", num.Sub, 0, least, 0, api.ErrRange},
		{"Sub", num.Sub, -1, least, greatest, api.OK},
		{"Mul", num.Mul, least, -1, 0, api.ErrRange},
		{"Mul", num.Mul, least, 1, least, api.OK},
		{"Mul", num.Mul, 1 << 32, 1 << 32, 0, api.ErrRange},
		{"Div", num.Div, -7, 2, -3, api.OK},
		{"Div", num.Div, 7, -2, -3, api.OK},
		{"Div", num.Div, least, -1, 0, api.ErrRange},
		{"Div", num.Div, least, 0, 0, api.ErrZero},
		{"Rem", num.Rem, -7, 2, -1, api.OK},
		{"Rem", num.Rem, 7, -2, 1, api.OK},
		{"Rem", num.Rem, least, -1, 0, api.OK},
		{"Rem", num.Rem, 0, 0, 0, api.ErrZero},
	} {
		if n, e := x.f(x.a, x.b); n != x.want || e != x.e {
			t.Errorf("%s(%d, %d) = %d, %d; want %d, %d", x.name, x.a, x.b, n, e, x.want, x.e)
		}
	}
}
