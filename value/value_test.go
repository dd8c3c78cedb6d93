package value_test

import (
	"math"
	"strings"
	"testing"

	"colonnade/api"
	"colonnade/value"
)

var (
	boolType = api.Type{Kind: api.Bool}
	intType  = api.Type{Kind: api.Int}
	textType = api.Type{Kind: api.Text}
	dateType = api.Type{Kind: api.Date}
)

func decType(scale int) api.Type {
	return api.Type{Kind: api.Dec, Scale: scale}
}

// validTypes are all types that are valid.
func validTypes() []api.Type {
	l := []api.Type{boolType, intType, textType, dateType}
	for scale := range api.MaxScale + 1 {
		l = append(l, decType(scale))
	}
	return l
}

// noKinds are numbers of kinds that there are not.
func noKinds() []int {
	return []int{math.MinInt, -1, 0, 6, 7, 9, 99, math.MaxInt}
}

// invalidTypes are types that are not: of no kind, or with a scale that their kind does not have.
func invalidTypes() []api.Type {
	var l []api.Type
	for _, kind := range noKinds() {
		for _, scale := range []int{-1, 0, 1, 19} {
			l = append(l, api.Type{Kind: kind, Scale: scale})
		}
	}
	for _, kind := range []int{api.Bool, api.Int, api.Text, api.Date} {
		for _, scale := range []int{math.MinInt, -1, 1, 2, 18, 19, math.MaxInt} {
			l = append(l, api.Type{Kind: kind, Scale: scale})
		}
	}
	for _, scale := range []int{math.MinInt, -19, -1, 19, 20, 99, math.MaxInt} {
		l = append(l, decType(scale))
	}
	return l
}

func numbers() []int64 {
	return []int64{
		math.MinInt64, math.MinInt64 + 1, -api.MaxDec - 1, -api.MaxDec, -125, -15, -10, -2, -1, 0, 1, 2, 5, 10, 15, 16, 125, 1000,
		api.MinDay - 1, api.MinDay, api.MaxDay, api.MaxDay + 1, api.MaxDec, api.MaxDec + 1, math.MaxInt64,
	}
}

func texts() []string {
	return []string{
		"", "a", "A", "ab", "b", "'", "''", "it's", "\x00", "\xff", "a\xff", "é", "true", "FALSE", "0", "-7", "1.50", "2000-02-29", "NULL", "1:a2v7;", "v",
		strings.Repeat("x", api.MaxText), strings.Repeat("x", api.MaxText+1), strings.Repeat("'", 200),
	}
}

// validValues are values of every type, with the edges of what they may hold, and missing ones.
func validValues() []api.Value {
	var l []api.Value
	for _, v := range anyValues() {
		if value.Check(v) == api.OK {
			l = append(l, v)
		}
	}
	return l
}

// anyValues are values, valid and not, that the functions must all accept.
func anyValues() []api.Value {
	var l []api.Value
	types := append(invalidTypes(), boolType, intType, textType, dateType, decType(0), decType(1), decType(2), decType(9), decType(17), decType(18))
	for _, t := range types {
		l = append(l, value.None(t), api.Value{Type: t, Null: true, N: 1}, api.Value{Type: t, Null: true, S: "x"})
		for _, n := range numbers() {
			l = append(l, api.Value{Type: t, N: n})
		}
		for _, s := range texts() {
			l = append(l, api.Value{Type: t, S: s})
		}
		l = append(l, api.Value{Type: t, N: 1, S: "x"}, api.Value{Type: t, N: -1, S: "1"})
	}
	return l
}

func TestP21CheckType(t *testing.T) {
	for _, x := range validTypes() {
		if e := value.CheckType(x); e != api.OK {
			t.Errorf("CheckType(%v) = %d", x, e)
		}
	}
	for _, x := range invalidTypes() {
		if e := value.CheckType(x); e != api.ErrType {
			t.Errorf("CheckType(%v) = %d; want ErrType", x, e)
		}
	}
}

func TestP21Check(t *testing.T) {
	long := strings.Repeat("x", api.MaxText)
	for _, x := range []struct {
		v api.Value
		e api.Errno
	}{
		{api.Value{Type: boolType, N: 0}, api.OK}, {api.Value{Type: boolType, N: 1}, api.OK},
		{api.Value{Type: boolType, N: 2}, api.ErrValue}, {api.Value{Type: boolType, N: -1}, api.ErrValue}, {api.Value{Type: boolType, S: "x"}, api.ErrValue},
		{api.Value{Type: intType, N: math.MinInt64}, api.OK}, {api.Value{Type: intType, N: math.MaxInt64}, api.OK}, {api.Value{Type: intType, S: "1"}, api.ErrValue},
		{api.Value{Type: decType(0), N: api.MaxDec}, api.OK}, {api.Value{Type: decType(18), N: -api.MaxDec}, api.OK},
		{api.Value{Type: decType(0), N: api.MaxDec + 1}, api.ErrValue}, {api.Value{Type: decType(18), N: -api.MaxDec - 1}, api.ErrValue},
		{api.Value{Type: decType(2), S: "1.00"}, api.ErrValue}, {api.Value{Type: decType(2), N: math.MinInt64}, api.ErrValue},
		{api.Value{Type: textType}, api.OK}, {api.Value{Type: textType, S: long}, api.OK}, {api.Value{Type: textType, S: "\x00\xff"}, api.OK},
		{api.Value{Type: textType, S: long + "x"}, api.ErrValue}, {api.Value{Type: textType, S: "x", N: 1}, api.ErrValue}, {api.Value{Type: textType, N: -1}, api.ErrValue},
		{api.Value{Type: dateType, N: api.MinDay}, api.OK}, {api.Value{Type: dateType, N: api.MaxDay}, api.OK},
		{api.Value{Type: dateType, N: api.MinDay - 1}, api.ErrValue}, {api.Value{Type: dateType, N: api.MaxDay + 1}, api.ErrValue}, {api.Value{Type: dateType, S: "x"}, api.ErrValue},
	} {
		if e := value.Check(x.v); e != x.e {
			t.Errorf("Check(%.60v) = %d; want %d", x.v, e, x.e)
		}
	}
}

func TestP21CheckMissing(t *testing.T) {
	for _, x := range validTypes() {
		if e := value.Check(api.Value{Type: x, Null: true}); e != api.OK {
			t.Errorf("Check(missing %v) = %d", x, e)
		}
		if e := value.Check(api.Value{Type: x, Null: true, N: 1}); e != api.ErrValue {
			t.Errorf("Check(missing %v with N) = %d; want ErrValue", x, e)
		}
		if e := value.Check(api.Value{Type: x, Null: true, S: "x"}); e != api.ErrValue {
			t.Errorf("Check(missing %v with S) = %d; want ErrValue", x, e)
		}
	}
}

func TestP21CheckNamesTypeFirst(t *testing.T) {
	for _, x := range invalidTypes() {
		for _, v := range []api.Value{{Type: x}, {Type: x, N: 5, S: "x"}, {Type: x, Null: true}, {Type: x, Null: true, N: 1}} {
			if e := value.Check(v); e != api.ErrType {
				t.Errorf("Check(%v) = %d; want ErrType", v, e)
			}
		}
	}
}

func TestP21Construction(t *testing.T) {
	for _, x := range append(validTypes(), invalidTypes()...) {
		if v := value.None(x); v != (api.Value{Type: x, Null: true}) {
			t.Errorf("None(%v) = %v", x, v)
		}
	}
	if v := value.OfBool(true); v != (api.Value{Type: boolType, N: 1}) {
		t.Errorf("OfBool(true) = %v", v)
	}
	if v := value.OfBool(false); v != (api.Value{Type: boolType}) {
		t.Errorf("OfBool(false) = %v", v)
	}
	for _, n := range numbers() {
		if v := value.OfInt(n); v != (api.Value{Type: intType, N: n}) {
			t.Errorf("OfInt(%d) = %v", n, v)
		}
		if v := value.OfDay(n); v != (api.Value{Type: dateType, N: n}) {
			t.Errorf("OfDay(%d) = %v", n, v)
		}
		for _, scale := range []int{math.MinInt, -1, 0, 1, 18, 19, math.MaxInt} {
			if v := value.OfDec(n, scale); v != (api.Value{Type: decType(scale), N: n}) {
				t.Errorf("OfDec(%d, %d) = %v", n, scale, v)
			}
		}
	}
	for _, s := range texts() {
		if v := value.OfText(s); v != (api.Value{Type: textType, S: s}) {
			t.Errorf("OfText(%q) = %v", s, v)
		}
	}
}
