package value_test

import (
	"math"
	"strings"
	"testing"

	"colonnade/api"
	"colonnade/num"
	"colonnade/value"
)

func expectCast(t *testing.T, v api.Value, to api.Type, want api.Value, wantErr api.Errno) {
	t.Helper()
	if got, e := value.Cast(v, to); got != want || e != wantErr {
		t.Fatalf("Cast(%.60v, %v) = %.60v, %d; want %.60v, %d", v, to, got, e, want, wantErr)
	}
}

func TestP24WhichThereAre(t *testing.T) {
	there := map[[2]int]bool{{api.Int, api.Dec}: true, {api.Dec, api.Int}: true}
	for kind := api.Bool; kind <= api.Date; kind++ {
		there[[2]int{kind, kind}] = true
		there[[2]int{kind, api.Text}] = true
		there[[2]int{api.Text, kind}] = true
	}
	for _, from := range validTypes() {
		for _, to := range validTypes() {
			if there[[2]int{from.Kind, to.Kind}] {
				expectCast(t, value.None(from), to, value.None(to), api.OK)
				expectCast(t, api.Value{Type: from, Null: true, N: 5, S: "x"}, to, value.None(to), api.OK)
				continue
			}
			expectCast(t, value.None(from), to, api.Value{}, api.ErrType)
			expectCast(t, api.Value{Type: from}, to, api.Value{}, api.ErrType)
		}
	}
}

func TestP24TypeFirst(t *testing.T) {
	for _, to := range invalidTypes() {
		for _, v := range []api.Value{value.OfInt(1), value.None(intType), value.OfText("x"), {}, {Type: to}, {Type: to, Null: true}, value.OfDec(math.MaxInt64, 99)} {
			expectCast(t, v, to, api.Value{}, api.ErrType)
		}
	}
	// A conversion that there is not is told before what is missing, or out of range.
	expectCast(t, value.None(boolType), intType, api.Value{}, api.ErrType)
	expectCast(t, value.OfDec(math.MaxInt64, 99), dateType, api.Value{}, api.ErrType)
}

func TestP24OfNoKind(t *testing.T) {
	for _, kind := range noKinds() {
		for _, v := range []api.Value{{}, {N: 1}, {N: 5, S: "x"}, {S: "TRUE"}, {Null: true}, {Null: true, N: 5, S: "x"}, {Type: api.Type{Scale: 3}, N: 1}} {
			v.Type.Kind = kind
			for _, to := range validTypes() {
				expectCast(t, v, to, api.Value{}, api.ErrType)
			}
		}
	}
}

func TestP24Numbers(t *testing.T) {
	for _, n := range numbers() {
		expectCast(t, value.OfInt(n), intType, value.OfInt(n), api.OK)
		for from := range api.MaxScale + 1 {
			for _, to := range validTypes() {
				if to.Kind != api.Int && to.Kind != api.Dec {
					continue
				}
				want, e := num.Scale(n, from, to.Scale)
				if e != api.OK {
					expectCast(t, value.OfDec(n, from), to, api.Value{}, api.ErrRange)
					continue
				}
				expectCast(t, value.OfDec(n, from), to, api.Value{Type: to, N: want}, api.OK)
			}
		}
		for to := range api.MaxScale + 1 {
			want, e := num.Scale(n, 0, to)
			if e != api.OK {
				expectCast(t, value.OfInt(n), decType(to), api.Value{}, api.ErrRange)
				continue
			}
			expectCast(t, value.OfInt(n), decType(to), value.OfDec(want, to), api.OK)
		}
	}
}

func TestP24NumbersNamed(t *testing.T) {
	for _, x := range []struct {
		v    api.Value
		to   api.Type
		want api.Value
		e    api.Errno
	}{
		{value.OfDec(25, 1), intType, value.OfInt(3), api.OK}, {value.OfDec(-25, 1), intType, value.OfInt(-3), api.OK}, {value.OfDec(249, 2), intType, value.OfInt(2), api.OK},
		{value.OfInt(3), decType(2), value.OfDec(300, 2), api.OK}, {value.OfDec(125, 2), decType(1), value.OfDec(13, 1), api.OK},
		{value.OfInt(api.MaxDec), decType(0), value.OfDec(api.MaxDec, 0), api.OK}, {value.OfInt(api.MaxDec + 1), decType(0), api.Value{}, api.ErrRange}, {value.OfInt(1), decType(18), api.Value{}, api.ErrRange},
		{value.OfDec(1, -1), decType(1), api.Value{}, api.ErrRange}, {value.OfDec(1, 19), intType, api.Value{}, api.ErrRange}, {value.OfDec(0, 19), decType(18), api.Value{}, api.ErrRange}, {value.OfDec(1, math.MinInt), intType, api.Value{}, api.ErrRange},
		{value.OfDec(api.MaxDec+1, 18), intType, api.Value{}, api.ErrRange}, {value.OfDec(api.MaxDec+1, 2), decType(2), api.Value{}, api.ErrRange},
		// A scale that is not valid matters only where there is a number to scale.
		{value.None(decType(19)), intType, value.None(intType), api.OK}, {value.OfDec(7, 19), textType, value.OfText("7"), api.OK},
		{api.Value{Type: api.Type{Kind: api.Int, Scale: 99}, N: 7}, decType(1), value.OfDec(70, 1), api.OK}, {api.Value{Type: api.Type{Kind: api.Int, Scale: 99}, N: 7}, intType, value.OfInt(7), api.OK},
	} {
		expectCast(t, x.v, x.to, x.want, x.e)
	}
}

func TestP24ToItself(t *testing.T) {
	for _, n := range numbers() {
		expectCast(t, api.Value{Type: boolType, N: n, S: "x"}, boolType, api.Value{Type: boolType, N: n}, api.OK)
		expectCast(t, api.Value{Type: intType, N: n, S: "x"}, intType, value.OfInt(n), api.OK)
		expectCast(t, api.Value{Type: dateType, N: n, S: "x"}, dateType, value.OfDay(n), api.OK)
		expectCast(t, api.Value{Type: textType, N: n, S: "x"}, textType, value.OfText("x"), api.OK)
	}
	expectCast(t, api.Value{Type: api.Type{Kind: api.Bool, Scale: 4}, N: 1}, boolType, value.OfBool(true), api.OK)
}

func TestP24ToText(t *testing.T) {
	for _, v := range anyValues() {
		if v.Type.Kind < api.Bool || v.Type.Kind > api.Date {
			expectCast(t, v, textType, api.Value{}, api.ErrType)
			continue
		}
		if v.Null {
			expectCast(t, v, textType, value.None(textType), api.OK)
			continue
		}
		want := v.S
		if v.Type.Kind != api.Text {
			want = value.Show(v)
		}
		if len(want) > api.MaxText {
			expectCast(t, v, textType, api.Value{}, api.ErrRange)
			continue
		}
		expectCast(t, v, textType, value.OfText(want), api.OK)
	}
	expectCast(t, value.OfText("it's"), textType, value.OfText("it's"), api.OK)
	expectCast(t, value.OfText(strings.Repeat("'", api.MaxText)), textType, value.OfText(strings.Repeat("'", api.MaxText)), api.OK)
	expectCast(t, value.OfText(strings.Repeat("'", api.MaxText+1)), textType, api.Value{}, api.ErrRange)
}

func TestP24FromText(t *testing.T) {
	for _, x := range []struct {
		s    string
		to   api.Type
		want int64
		e    api.Errno
	}{
		{"TRUE", boolType, 1, api.OK}, {"true", boolType, 1, api.OK}, {"tRuE", boolType, 1, api.OK}, {"FALSE", boolType, 0, api.OK}, {"false", boolType, 0, api.OK}, {"FaLsE", boolType, 0, api.OK},
		{"", boolType, 0, api.ErrCast}, {"t", boolType, 0, api.ErrCast}, {"1", boolType, 0, api.ErrCast}, {"TRUE ", boolType, 0, api.ErrCast}, {" TRUE", boolType, 0, api.ErrCast}, {"TRUEE", boolType, 0, api.ErrCast}, {"FALS", boolType, 0, api.ErrCast},
		{"FAL\u017fE", boolType, 0, api.ErrCast}, {"TR\x15E", boolType, 0, api.ErrCast}, {"\x34RUE", boolType, 0, api.ErrCast}, {"unknown", boolType, 0, api.ErrCast}, {"NULL", boolType, 0, api.ErrCast},
		{"7", intType, 7, api.OK}, {"-0", intType, 0, api.OK}, {"9223372036854775807", intType, math.MaxInt64, api.OK}, {"-9223372036854775808", intType, math.MinInt64, api.OK},
		{"9223372036854775808", intType, 0, api.ErrCast}, {"", intType, 0, api.ErrCast}, {"+7", intType, 0, api.ErrCast}, {"7.0", intType, 0, api.ErrCast}, {" 7", intType, 0, api.ErrCast}, {"x", intType, 0, api.ErrCast},
		{"1.25", decType(1), 13, api.OK}, {"-1.25", decType(1), -13, api.OK}, {"1.5", decType(3), 1500, api.OK}, {"2", decType(0), 2, api.OK}, {"0.4", decType(0), 0, api.OK},
		{"999999999999999999", decType(0), api.MaxDec, api.OK}, {"1000000000000000000", decType(0), 0, api.ErrCast}, {"1", decType(18), 0, api.ErrCast}, {"0.0000000000000000001", decType(2), 0, api.ErrCast},
		{"", decType(0), 0, api.ErrCast}, {".5", decType(1), 0, api.ErrCast}, {"1.", decType(1), 0, api.ErrCast}, {"1e3", decType(1), 0, api.ErrCast},
		{"2000-02-29", dateType, 11016, api.OK}, {"1970-01-01", dateType, 0, api.OK}, {"0001-01-01", dateType, api.MinDay, api.OK}, {"9999-12-31", dateType, api.MaxDay, api.OK},
		{"2023-02-29", dateType, 0, api.ErrCast}, {"0000-01-01", dateType, 0, api.ErrCast}, {"2000-2-29", dateType, 0, api.ErrCast}, {"11016", dateType, 0, api.ErrCast}, {"", dateType, 0, api.ErrCast},
	} {
		want := api.Value{Type: x.to, N: x.want}
		if x.e != api.OK {
			want = api.Value{}
		}
		expectCast(t, value.OfText(x.s), x.to, want, x.e)
		expectCast(t, api.Value{Type: textType, N: 99, S: x.s}, x.to, want, x.e)
	}
	// The text itself may be longer than a Text may be, if only the value is not.
	expectCast(t, value.OfText(strings.Repeat("0", 300)+"7"), intType, value.OfInt(7), api.OK)
}

func TestP28TextAndBack(t *testing.T) {
	for _, v := range validValues() {
		s, e := value.Cast(v, textType)
		if e != api.OK || value.Check(s) != api.OK {
			t.Fatalf("Cast(%.60v, Text) = %.60v, %d", v, s, e)
		}
		expectCast(t, s, v.Type, v, api.OK)
	}
}

func TestP28DecAndBack(t *testing.T) {
	for _, n := range numbers() {
		for scale := range api.MaxScale + 1 {
			if d, e := value.Cast(value.OfInt(n), decType(scale)); e == api.OK {
				expectCast(t, d, intType, value.OfInt(n), api.OK)
			}
		}
	}
}
