package value

import (
	"colonnade/api"
	"colonnade/num"
)

// Cast returns v as a value of the type t.
// The error of CheckType for t; ErrType if v's kind is never converted to t's; ErrCast if v is a text that has no such value; ErrRange if a number does not fit or a text is too long.
func Cast(v api.Value, t api.Type) (api.Value, api.Errno) {
	if e := CheckType(t); e != api.OK {
		return api.Value{}, e
	}
	if !castable(v.Type.Kind, t.Kind) {
		return api.Value{}, api.ErrType
	}
	if v.Null {
		return None(t), api.OK
	}
	if t.Kind == api.Text {
		return castToText(v, t)
	}
	n, e := castToNumber(v, t)
	if e != api.OK {
		return api.Value{}, e
	}
	return api.Value{Type: t, N: n}, api.OK
}

// castable reports whether values of one kind are converted to another one, which is one of the five. What is of no kind is converted to nothing, to Text neither.
func castable(from, to int) bool {
	switch {
	case from == api.Text:
		return true
	case from == api.Int, from == api.Dec:
		return to == api.Int || to == api.Dec || to == api.Text
	case from == api.Bool, from == api.Date:
		return to == from || to == api.Text
	}
	return false
}

// castToText returns v, which is present, as a value of the type t of texts.
func castToText(v api.Value, t api.Type) (api.Value, api.Errno) {
	s := v.S
	if v.Type.Kind != api.Text {
		s = Show(v)
	}
	if len(s) > api.MaxText {
		return api.Value{}, api.ErrRange
	}
	return api.Value{Type: t, S: s}, api.OK
}

// castToNumber returns what v, which is present, holds as a value of a type t other than Text.
func castToNumber(v api.Value, t api.Type) (int64, api.Errno) {
	from := v.Type.Kind
	switch {
	case from == api.Text:
		return parse(v.S, t)
	case from == api.Int && t.Kind == api.Dec:
		return rescale(v.N, 0, t.Scale)
	case from == api.Dec:
		// An Int's scale is 0, as CheckType of t has made sure.
		return rescale(v.N, v.Type.Scale, t.Scale)
	}
	return v.N, api.OK
}

// rescale is num.Scale, but a scale that is not valid is out of range, too.
func rescale(n int64, from, to int) (int64, api.Errno) {
	scaled, e := num.Scale(n, from, to)
	if e != api.OK {
		return 0, api.ErrRange
	}
	return scaled, api.OK
}

// parse reads a value of the type t, other than Text, or returns ErrCast.
func parse(s string, t api.Type) (int64, api.Errno) {
	var n int64
	var e api.Errno
	switch {
	case t.Kind == api.Bool:
		n, e = parseBool(s)
	case t.Kind == api.Int:
		n, e = num.ParseInt(s)
	case t.Kind == api.Dec:
		n, e = parseDec(s, t.Scale)
	default:
		n, e = num.ParseDay(s)
	}
	if e != api.OK {
		return 0, api.ErrCast
	}
	return n, api.OK
}

// parseBool reads TRUE or FALSE. Texts are bytes: letters beyond ASCII that fold to one of these are others.
func parseBool(s string) (int64, api.Errno) {
	switch {
	case sameLetters(s, "TRUE"):
		return 1, api.OK
	case sameLetters(s, "FALSE"):
		return 0, api.OK
	}
	return 0, api.ErrCast
}

// parseDec reads a decimal and gives it the scale wanted.
func parseDec(s string, scale int) (int64, api.Errno) {
	n, from, e := num.ParseDec(s)
	if e != api.OK {
		return 0, e
	}
	return num.Scale(n, from, scale)
}

// sameLetters reports whether s is a word of capital letters but for the letters' case.
func sameLetters(s, capitals string) bool {
	if len(s) != len(capitals) {
		return false
	}
	for i := range len(s) {
		c := s[i]
		if 'a' <= c && c <= 'z' {
			c -= 'a' - 'A'
		}
		if c != capitals[i] {
			return false
		}
	}
	return true
}
