package value

import "colonnade/api"

// Alike reports whether values of two types can be compared: whether both are numbers, or both are of the same other kind.
func Alike(a, b api.Type) bool {
	switch {
	case isNumber(a):
		return isNumber(b)
	case a.Kind == api.Bool || a.Kind == api.Text || a.Kind == api.Date:
		return a.Kind == b.Kind
	}
	return false
}

// Test returns the truth value of the comparison op of a and b.
// ErrArg if there is no such comparison, ErrType if the types are not alike.
func Test(op int, a, b api.Value) (int, api.Errno) {
	if op < api.Eq || op > api.Ge {
		return 0, api.ErrArg
	}
	if !Alike(a.Type, b.Type) {
		return 0, api.ErrType
	}
	if a.Null || b.Null {
		return api.Unknown, api.OK
	}
	return truthOf(holds(op, compare(a, b))), api.OK
}

// And returns whether a and b are both true; what is not a truth value counts as Unknown.
func And(a, b int) int {
	switch {
	case a == api.False || b == api.False:
		return api.False
	case a != api.True || b != api.True:
		return api.Unknown
	}
	return api.True
}

// Or returns whether a or b is true; what is not a truth value counts as Unknown.
func Or(a, b int) int {
	switch {
	case a == api.True || b == api.True:
		return api.True
	case a != api.False || b != api.False:
		return api.Unknown
	}
	return api.False
}

// Not returns whether a is false; what is not a truth value counts as Unknown.
func Not(a int) int {
	switch a {
	case api.False:
		return api.True
	case api.True:
		return api.False
	}
	return api.Unknown
}

// Truth returns v as a truth value, or ErrType if it is not a Bool.
func Truth(v api.Value) (int, api.Errno) {
	if v.Type.Kind != api.Bool {
		return 0, api.ErrType
	}
	if v.Null {
		return api.Unknown, api.OK
	}
	return truthOf(v.N != 0), api.OK
}

func isNumber(t api.Type) bool {
	return t.Kind == api.Int || t.Kind == api.Dec
}

func truthOf(yes bool) int {
	if yes {
		return api.True
	}
	return api.False
}

// holds reports whether the comparison op holds of two values whose order is c.
func holds(op, c int) bool {
	switch op {
	case api.Eq:
		return c == 0
	case api.Ne:
		return c != 0
	case api.Lt:
		return c < 0
	case api.Le:
		return c <= 0
	case api.Gt:
		return c > 0
	}
	return c >= 0
}
