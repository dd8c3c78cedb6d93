package value

import (
	"strconv"
	"strings"

	"colonnade/api"
	"colonnade/num"
)

const (
	hashStart = 14695981039346656037
	hashPrime = 1099511628211

	noScale = 99 // in a key, for a scale that is not valid
)

// Show returns v as SQL writes it, or ? if it is of no kind.
func Show(v api.Value) string {
	kind := v.Type.Kind
	switch {
	case v.Null:
		return "NULL"
	case kind == api.Bool && v.N == 0:
		return "FALSE"
	case kind == api.Bool:
		return "TRUE"
	case kind == api.Int:
		return num.FormatInt(v.N)
	case kind == api.Dec:
		return showDec(v)
	case kind == api.Text:
		return "'" + strings.ReplaceAll(v.S, "'", "''") + "'"
	case kind == api.Date:
		return showDay(v.N)
	}
	return "?"
}

// Key returns a text that valid values share exactly if they are equal, one by one.
func Key(l ...api.Value) string {
	var b []byte
	for _, v := range l {
		b = appendKey(b, v)
	}
	return string(b)
}

// Hash returns a number that lists with the same key share.
func Hash(seed uint64, l ...api.Value) uint64 {
	h := hashStart ^ seed
	var b []byte
	for _, v := range l {
		b = appendKey(b[:0], v)
		for _, c := range b {
			h = (h ^ uint64(c)) * hashPrime
		}
	}
	return h
}

// showDec returns the text of a decimal, or its digits alone if its scale is not valid.
func showDec(v api.Value) string {
	s, e := num.FormatDec(v.N, v.Type.Scale)
	if e != api.OK {
		return num.FormatInt(v.N)
	}
	return s
}

// showDay returns the text of a date, or its number if there is no such date.
func showDay(n int64) string {
	s, e := num.FormatDay(n)
	if e != api.OK {
		return num.FormatInt(n)
	}
	return s
}

// appendKey appends the key of one value. A text's length stands ahead of it, and a ; behind a number, so that no key is the beginning of another.
func appendKey(b []byte, v api.Value) []byte {
	kind := v.Type.Kind
	b = strconv.AppendInt(b, int64(kind), 10)
	if kind == api.Dec {
		b = appendScale(b, v.Type.Scale)
	}
	switch {
	case v.Null:
		return append(b, 'n')
	case kind == api.Text:
		b = strconv.AppendInt(append(b, 'v'), int64(len(v.S)), 10)
		return append(append(b, ':'), v.S...)
	}
	return append(strconv.AppendInt(append(b, 'v'), v.N, 10), ';')
}

// appendScale appends a scale in two digits.
func appendScale(b []byte, scale int) []byte {
	if scale < 0 || scale > api.MaxScale {
		scale = noScale
	}
	return append(b, byte('0'+scale/10), byte('0'+scale%10))
}
