package num

import (
	"strconv"
	"strings"

	"colonnade/api"
)

// ParseInt reads one or more digits with an optional leading -: ErrNumber if s is not of this form, ErrRange if the number is not an int64.
func ParseInt(s string) (int64, api.Errno) {
	digits, _ := strings.CutPrefix(s, "-")
	if !allDigits(digits) {
		return 0, api.ErrNumber
	}
	n, err := strconv.ParseInt(s, 10, 64)
	if err != nil {
		return 0, api.ErrRange
	}
	return n, api.OK
}

// ParseDec reads an integer, optionally followed by a point and one or more digits, and returns its digits and how many stand after the point.
// ErrNumber if s is not of this form, ErrRange if there are too many digits after the point or the number of all digits does not fit.
func ParseDec(s string) (int64, int, api.Errno) {
	whole, fraction, point := strings.Cut(s, ".")
	digits, _ := strings.CutPrefix(whole, "-")
	if !allDigits(digits) || point && !allDigits(fraction) {
		return 0, 0, api.ErrNumber
	}
	if len(fraction) > api.MaxScale {
		return 0, 0, api.ErrRange
	}
	v, e := ParseInt(whole + fraction)
	if e != api.OK || !Fits(v) {
		return 0, 0, api.ErrRange
	}
	return v, len(fraction), api.OK
}

// FormatInt returns the digits of n, with a leading - if n is negative.
func FormatInt(n int64) string {
	return strconv.FormatInt(n, 10)
}

// FormatDec returns the decimal v with scale digits after the point, or ErrArg if scale is no scale.
func FormatDec(v int64, scale int) (string, api.Errno) {
	if !isScale(scale) {
		return "", api.ErrArg
	}
	s := padded(magnitude(v), scale+1)
	if scale > 0 {
		at := len(s) - scale
		s = s[:at] + "." + s[at:]
	}
	if v < 0 {
		s = "-" + s
	}
	return s, api.OK
}

// allDigits reports whether s is one or more decimal digits.
func allDigits(s string) bool {
	for i := range len(s) {
		if s[i] < '0' || s[i] > '9' {
			return false
		}
	}
	return s != ""
}

// magnitude returns the absolute value of v: unsigned, because that of the least int64 is not an int64.
func magnitude(v int64) uint64 {
	if v < 0 {
		return -uint64(v)
	}
	return uint64(v)
}

// padded returns the digits of n with leading zeros, at least width of them.
func padded(n uint64, width int) string {
	s := strconv.FormatUint(n, 10)
	return strings.Repeat("0", max(0, width-len(s))) + s
}
