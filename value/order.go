package value

import (
	"cmp"
	"slices"
	"strings"

	"colonnade/api"
	"colonnade/num"
)

// Order returns -1, 0 or 1 if a is before, beside or behind b in the order of all values, in which the missing ones are first.
func Order(a, b api.Value) int {
	switch {
	case a.Null && b.Null:
		return 0
	case a.Null:
		return -1
	case b.Null:
		return 1
	case Alike(a.Type, b.Type):
		return compare(a, b)
	}
	return cmp.Compare(rank(a.Type), rank(b.Type))
}

// OrderRows returns the order of two rows: that of the first values that differ; a proper prefix is first.
func OrderRows(a, b []api.Value) int {
	return slices.CompareFunc(a, b, Order)
}

// rank returns the place of a type's values among those that are not alike: that of Int for all numbers, so that the order stays transitive.
func rank(t api.Type) int {
	if isNumber(t) {
		return api.Int
	}
	return t.Kind
}

// compare returns the order of two values that are present, of types that are alike.
func compare(a, b api.Value) int {
	switch {
	case a.Type.Kind == api.Text:
		return strings.Compare(a.S, b.S)
	case isNumber(a.Type):
		return compareNumbers(a, b)
	}
	return cmp.Compare(a.N, b.N)
}

// compareNumbers compares what two numbers denote: each is multiplied by the other's power of ten, in 128 bits.
func compareNumbers(a, b api.Value) int {
	x, y := scaleOf(a.Type), scaleOf(b.Type)
	if x == y {
		return cmp.Compare(a.N, b.N)
	}
	return num.WideCmp(num.WideMul(a.N, power(y)), num.WideMul(b.N, power(x)))
}

// scaleOf returns the scale with which a number of the type t is compared, valid or not.
func scaleOf(t api.Type) int {
	if t.Kind != api.Dec {
		return 0
	}
	return min(max(t.Scale, 0), api.MaxScale)
}

// power returns 10 to the power of a valid scale.
func power(scale int) int64 {
	p, _ := num.Pow10(scale)
	return p
}
