package value_test

import (
	"math"
	"math/big"
	"strings"
	"testing"

	"colonnade/api"
	"colonnade/value"
)

// family is the kind whose values those of a type are alike to: one for all numbers, 0 for no kind.
func family(t api.Type) int {
	switch t.Kind {
	case api.Int, api.Dec:
		return api.Int
	case api.Bool, api.Text, api.Date:
		return t.Kind
	}
	return 0
}

// denoted is the exact number that a number denotes.
func denoted(v api.Value) *big.Rat {
	scale := 0
	if v.Type.Kind == api.Dec {
		scale = max(0, min(v.Type.Scale, api.MaxScale))
	}
	return new(big.Rat).SetFrac(big.NewInt(v.N), new(big.Int).Exp(big.NewInt(10), big.NewInt(int64(scale)), nil))
}

// exactOrder is the order of two values that are present and alike.
func exactOrder(a, b api.Value) int {
	switch family(a.Type) {
	case api.Int:
		return denoted(a).Cmp(denoted(b))
	case api.Text:
		return strings.Compare(a.S, b.S)
	}
	return big.NewInt(a.N).Cmp(big.NewInt(b.N))
}

// someValues are fewer of anyValues, to be taken by pairs.
func someValues() []api.Value {
	var l []api.Value
	for i, v := range anyValues() {
		if i%5 == 0 || value.Check(v) == api.OK && i%2 == 0 {
			l = append(l, v)
		}
	}
	return l
}

func TestP22Alike(t *testing.T) {
	types := append(validTypes(), invalidTypes()...)
	for _, a := range types {
		for _, b := range types {
			want := family(a) != 0 && family(a) == family(b)
			if got := value.Alike(a, b); got != want {
				t.Errorf("Alike(%v, %v) = %v", a, b, got)
			}
		}
	}
}

func TestP22TestNamed(t *testing.T) {
	one, null := value.OfInt(1), value.None(intType)
	for _, x := range []struct {
		op   int
		a, b api.Value
		want int
		e    api.Errno
	}{
		{api.Lt, one, value.OfDec(15, 1), api.True, api.OK},
		{api.Eq, null, one, api.Unknown, api.OK}, {api.Eq, one, null, api.Unknown, api.OK}, {api.Eq, null, null, api.Unknown, api.OK}, {api.Ne, null, null, api.Unknown, api.OK},
		{api.Eq, one, value.OfDec(100, 2), api.True, api.OK}, {api.Ne, one, value.OfDec(100, 2), api.False, api.OK},
		{api.Eq, value.OfDec(1, 18), value.OfDec(0, 0), api.False, api.OK}, {api.Gt, value.OfInt(math.MaxInt64), value.OfDec(math.MaxInt64, 18), api.True, api.OK},
		{api.Lt, value.OfInt(math.MinInt64), value.OfDec(math.MinInt64, 18), api.True, api.OK}, {api.Gt, value.OfInt(api.MaxDec + 1), value.OfDec(api.MaxDec, 0), api.True, api.OK},
		{api.Eq, value.OfDec(5, -3), value.OfInt(5), api.True, api.OK}, {api.Eq, value.OfDec(5, 99), value.OfDec(5, 18), api.True, api.OK},
		{api.Eq, api.Value{Type: api.Type{Kind: api.Int, Scale: 3}, N: 5}, value.OfInt(5), api.True, api.OK},
		{api.Lt, value.OfText("a"), value.OfText("ab"), api.True, api.OK}, {api.Gt, value.OfText("\xff"), value.OfText("é"), api.True, api.OK}, {api.Lt, value.OfText("B"), value.OfText("a"), api.True, api.OK},
		{api.Lt, value.OfBool(false), value.OfBool(true), api.True, api.OK}, {api.Eq, api.Value{Type: boolType, N: 2}, value.OfBool(true), api.False, api.OK},
		{api.Ge, value.OfDay(0), value.OfDay(-1), api.True, api.OK},
		{0, one, one, 0, api.ErrArg}, {7, one, one, 0, api.ErrArg}, {-1, one, one, 0, api.ErrArg}, {math.MaxInt, one, one, 0, api.ErrArg},
		// The comparison is told before the types, and these before what is missing.
		{0, one, value.OfText("1"), 0, api.ErrArg}, {0, null, null, 0, api.ErrArg}, {api.Eq, null, value.OfText("1"), 0, api.ErrType}, {api.Eq, one, value.None(textType), 0, api.ErrType},
		{api.Eq, one, value.OfDay(1), 0, api.ErrType}, {api.Eq, one, value.OfBool(true), 0, api.ErrType}, {api.Eq, api.Value{}, api.Value{}, 0, api.ErrType},
	} {
		if got, e := value.Test(x.op, x.a, x.b); got != x.want || e != x.e {
			t.Errorf("Test(%d, %v, %v) = %d, %d; want %d, %d", x.op, x.a, x.b, got, e, x.want, x.e)
		}
	}
}

func TestP22TestExact(t *testing.T) {
	values := someValues()
	for _, a := range values {
		for _, b := range values {
			if family(a.Type) == 0 || family(a.Type) != family(b.Type) {
				expectAll(t, a, b, [6]int{}, api.ErrType)
				continue
			}
			if a.Null || b.Null {
				expectAll(t, a, b, [6]int{2, 2, 2, 2, 2, 2}, api.OK)
				continue
			}
			// The comparisons Eq, Ne, Lt, Le, Gt, Ge of what is less, equal and greater.
			want := [3][6]int{{0, 1, 1, 1, 0, 0}, {1, 0, 0, 1, 0, 1}, {0, 1, 0, 0, 1, 1}}
			expectAll(t, a, b, want[exactOrder(a, b)+1], api.OK)
		}
	}
}

func expectAll(t *testing.T, a, b api.Value, want [6]int, wantErr api.Errno) {
	t.Helper()
	for i, op := range []int{api.Eq, api.Ne, api.Lt, api.Le, api.Gt, api.Ge} {
		if got, e := value.Test(op, a, b); got != want[i] || e != wantErr {
			t.Fatalf("Test(%d, %.60v, %.60v) = %d, %d; want %d, %d", op, a, b, got, e, want[i], wantErr)
		}
	}
}

func TestP22AndOrNot(t *testing.T) {
	const f, y, u = api.False, api.True, api.Unknown
	and := [3][3]int{{f, f, f}, {f, y, u}, {f, u, u}}
	or := [3][3]int{{f, y, u}, {y, y, y}, {u, y, u}}
	not := [3]int{y, f, u}
	counted := func(n int) int {
		if n == f || n == y {
			return n
		}
		return u
	}
	all := []int{f, y, u, 3, 4, -1, -2, math.MinInt, math.MaxInt}
	for _, a := range all {
		if got := value.Not(a); got != not[counted(a)] {
			t.Errorf("Not(%d) = %d", a, got)
		}
		for _, b := range all {
			if got := value.And(a, b); got != and[counted(a)][counted(b)] {
				t.Errorf("And(%d, %d) = %d", a, b, got)
			}
			if got := value.Or(a, b); got != or[counted(a)][counted(b)] {
				t.Errorf("Or(%d, %d) = %d", a, b, got)
			}
		}
	}
}

func TestP22Truth(t *testing.T) {
	for _, x := range []struct {
		v    api.Value
		want int
		e    api.Errno
	}{
		{value.OfBool(false), api.False, api.OK}, {value.OfBool(true), api.True, api.OK}, {value.None(boolType), api.Unknown, api.OK},
		{api.Value{Type: boolType, N: 2}, api.True, api.OK}, {api.Value{Type: boolType, N: -1}, api.True, api.OK}, {api.Value{Type: boolType, Null: true, N: 1}, api.Unknown, api.OK},
		{api.Value{Type: api.Type{Kind: api.Bool, Scale: 5}, N: 1}, api.True, api.OK},
		{value.OfInt(1), 0, api.ErrType}, {value.OfText("TRUE"), 0, api.ErrType}, {value.None(intType), 0, api.ErrType}, {value.OfDec(1, 0), 0, api.ErrType}, {value.OfDay(1), 0, api.ErrType}, {api.Value{}, 0, api.ErrType},
	} {
		if got, e := value.Truth(x.v); got != x.want || e != x.e {
			t.Errorf("Truth(%v) = %d, %d; want %d, %d", x.v, got, e, x.want, x.e)
		}
	}
}
