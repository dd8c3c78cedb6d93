package value_test

import (
	"cmp"
	"math"
	"slices"
	"testing"

	"colonnade/api"
	"colonnade/value"
)

// wantOrder is the order of all values by the chapter's words.
func wantOrder(a, b api.Value) int {
	if a.Null || b.Null {
		present := func(v api.Value) int {
			if v.Null {
				return 0
			}
			return 1
		}
		return cmp.Compare(present(a), present(b))
	}
	if family(a.Type) != 0 && family(a.Type) == family(b.Type) {
		return exactOrder(a, b)
	}
	number := func(v api.Value) int {
		if v.Type.Kind == api.Dec {
			return api.Int
		}
		return v.Type.Kind
	}
	return cmp.Compare(number(a), number(b))
}

func TestP23Order(t *testing.T) {
	values := someValues()
	for _, a := range values {
		for _, b := range values {
			if got := value.Order(a, b); got != wantOrder(a, b) {
				t.Fatalf("Order(%.60v, %.60v) = %d", a, b, got)
			}
		}
	}
}

func TestP23OrderNamed(t *testing.T) {
	for _, x := range []struct {
		a, b api.Value
		want int
	}{
		{value.OfText("b"), value.OfInt(9), 1}, {value.OfBool(true), value.OfInt(-9), -1}, {value.OfDay(-5), value.OfText("z"), 1}, {value.OfDec(5, 1), value.OfText(""), -1},
		{value.OfDec(25, 1), value.OfInt(2), 1}, {value.OfDec(20, 1), value.OfInt(2), 0},
		{value.None(textType), value.None(intType), 0}, {value.None(dateType), value.OfBool(false), -1}, {value.OfBool(false), value.None(dateType), 1},
		{value.None(api.Type{Kind: 9}), value.OfInt(math.MinInt64), -1}, {api.Value{Null: true, N: 5}, api.Value{Null: true, S: "x"}, 0},
		{api.Value{Type: api.Type{Kind: 9}, N: 1}, api.Value{Type: api.Type{Kind: 9}, N: 2}, 0}, {api.Value{Type: api.Type{Kind: 9}}, value.OfDay(1), 1}, {api.Value{}, value.OfBool(false), -1},
		{api.Value{Type: api.Type{Kind: math.MinInt}}, api.Value{Type: api.Type{Kind: math.MaxInt}}, -1},
	} {
		if got := value.Order(x.a, x.b); got != x.want {
			t.Errorf("Order(%v, %v) = %d; want %d", x.a, x.b, got, x.want)
		}
	}
}

func TestP23OrderRows(t *testing.T) {
	one, two, null := value.OfInt(1), value.OfInt(2), value.None(intType)
	for _, x := range []struct {
		a, b []api.Value
		want int
	}{
		{nil, nil, 0}, {nil, []api.Value{}, 0}, {nil, []api.Value{null}, -1}, {[]api.Value{null}, nil, 1},
		{[]api.Value{one}, []api.Value{one, null}, -1}, {[]api.Value{one, null}, []api.Value{one}, 1}, {[]api.Value{two}, []api.Value{one, two}, 1},
		{[]api.Value{one, two}, []api.Value{one, one}, 1}, {[]api.Value{one, two, one}, []api.Value{two, one, one}, -1}, {[]api.Value{one, null}, []api.Value{one, one}, -1},
		{[]api.Value{one, null, two}, []api.Value{value.OfDec(10, 1), value.None(textType), value.OfDec(200, 2)}, 0},
	} {
		if got := value.OrderRows(x.a, x.b); got != x.want {
			t.Errorf("OrderRows(%v, %v) = %d; want %d", x.a, x.b, got, x.want)
		}
	}
}

func TestP26TotalPreorder(t *testing.T) {
	values := someValues()
	slices.SortStableFunc(values, value.Order)
	// Sorted by a total preorder, no value is behind a later one, whichever two are taken.
	for i, a := range values {
		if value.Order(a, a) != 0 {
			t.Fatalf("Order(%.60v, itself) = %d", a, value.Order(a, a))
		}
		for _, b := range values[i:] {
			if x, y := value.Order(a, b), value.Order(b, a); x > 0 || x != -y {
				t.Fatalf("Order(%.60v, %.60v) = %d, and %d the other way", a, b, x, y)
			}
		}
	}
}

func TestP26TestAgreesWithOrder(t *testing.T) {
	values := someValues()
	for _, a := range values {
		for _, b := range values {
			if a.Null || b.Null || !value.Alike(a.Type, b.Type) {
				continue
			}
			less, _ := value.Test(api.Lt, a, b)
			equal, _ := value.Test(api.Eq, a, b)
			if c := value.Order(a, b); (c < 0) != (less == api.True) || (c == 0) != (equal == api.True) {
				t.Fatalf("Order(%.60v, %.60v) = %d, but Lt %d and Eq %d", a, b, c, less, equal)
			}
		}
	}
}
