package num_test

import (
	"math"
	"math/big"
	"strings"
	"testing"

	"colonnade/api"
	"colonnade/num"
)

// notNumbers are texts that are neither integers nor decimals.
func notNumbers() []string {
	l := []string{
		"", "-", "+", "+1", "--1", "-+1", "1-", "1-2", "- 1", " 1", "1 ", "1\n", "\x001", "1\x00", "1_000", "1,5", "0x10", "0b1", "1e3", "1E3",
		"a", "12a", "a12", "inf", "NaN", "nil", "٣", "１", "\xff", "1\xff", ":", "/", "1:", "1/",
	}
	long := strings.Repeat("9", 50)
	return append(l, long+"x", "x"+long, "-"+long+"-", strings.Repeat("-", 50))
}

func TestP13ParseInt(t *testing.T) {
	zeros := strings.Repeat("0", 1000)
	for _, x := range []struct {
		s    string
		want int64
		e    api.Errno
	}{
		{"0", 0, api.OK}, {"-0", 0, api.OK}, {"7", 7, api.OK}, {"-7", -7, api.OK}, {"007", 7, api.OK}, {"-007", -7, api.OK},
		{"9223372036854775807", math.MaxInt64, api.OK}, {"-9223372036854775808", math.MinInt64, api.OK},
		{zeros + "9223372036854775807", math.MaxInt64, api.OK}, {"-" + zeros + "9223372036854775808", math.MinInt64, api.OK},
		{"9223372036854775808", 0, api.ErrRange}, {"-9223372036854775809", 0, api.ErrRange},
		{"18446744073709551616", 0, api.ErrRange}, {"-18446744073709551617", 0, api.ErrRange},
		{"1" + zeros, 0, api.ErrRange}, {"-1" + zeros, 0, api.ErrRange}, {zeros, 0, api.OK},
		{"1.0", 0, api.ErrNumber}, {"1.", 0, api.ErrNumber}, {".1", 0, api.ErrNumber}, {".", 0, api.ErrNumber},
	} {
		if n, e := num.ParseInt(x.s); n != x.want || e != x.e {
			t.Errorf("ParseInt(%.40q) = %d, %d; want %d, %d", x.s, n, e, x.want, x.e)
		}
	}
	for _, s := range notNumbers() {
		if n, e := num.ParseInt(s); n != 0 || e != api.ErrNumber {
			t.Errorf("ParseInt(%q) = %d, %d; want 0, ErrNumber", s, n, e)
		}
	}
}

func TestP13ParseDec(t *testing.T) {
	zeros := strings.Repeat("0", 1000)
	for _, x := range []struct {
		s     string
		want  int64
		scale int
		e     api.Errno
	}{
		{"0", 0, 0, api.OK}, {"-0", 0, 0, api.OK}, {"-0.0", 0, 1, api.OK}, {"-0.50", -50, 2, api.OK}, {"12.5", 125, 1, api.OK}, {"007.10", 710, 2, api.OK},
		{"999999999999999999", api.MaxDec, 0, api.OK}, {"-999999999999999999", -api.MaxDec, 0, api.OK},
		{"0.999999999999999999", api.MaxDec, 18, api.OK}, {"-0.000000000000000001", -1, 18, api.OK},
		{"999999999.999999999", api.MaxDec, 9, api.OK}, {zeros + "1.5", 15, 1, api.OK}, {"-" + zeros + ".5", -5, 1, api.OK},
		{"1000000000000000000", 0, 0, api.ErrRange}, {"-1000000000000000000", 0, 0, api.ErrRange},
		{"1.000000000000000000", 0, 0, api.ErrRange}, {"-100000000000000000.0", 0, 0, api.ErrRange},
		{"0.0000000000000000000", 0, 0, api.ErrRange}, {"1." + zeros, 0, 0, api.ErrRange}, {"1" + zeros + ".1", 0, 0, api.ErrRange},
		{"9223372036854775807", 0, 0, api.ErrRange}, {"9223372036854775808", 0, 0, api.ErrRange}, {"-9223372036854775808", 0, 0, api.ErrRange},
		{"1.", 0, 0, api.ErrNumber}, {".5", 0, 0, api.ErrNumber}, {".", 0, 0, api.ErrNumber}, {"-.5", 0, 0, api.ErrNumber}, {"-.", 0, 0, api.ErrNumber},
		{"1..5", 0, 0, api.ErrNumber}, {"1.5.", 0, 0, api.ErrNumber}, {"1.2.3", 0, 0, api.ErrNumber}, {"1.-5", 0, 0, api.ErrNumber}, {"1.+5", 0, 0, api.ErrNumber},
		{"1. 5", 0, 0, api.ErrNumber}, {"1.5e1", 0, 0, api.ErrNumber}, {"+1.5", 0, 0, api.ErrNumber}, {"--1.5", 0, 0, api.ErrNumber},
		// A text that is no number is told before one that is out of range.
		{"1" + zeros + ".", 0, 0, api.ErrNumber}, {"1." + zeros + "x", 0, 0, api.ErrNumber}, {"1" + zeros + ".1.1", 0, 0, api.ErrNumber},
	} {
		if n, scale, e := num.ParseDec(x.s); n != x.want || scale != x.scale || e != x.e {
			t.Errorf("ParseDec(%.40q) = %d, %d, %d; want %d, %d, %d", x.s, n, scale, e, x.want, x.scale, x.e)
		}
	}
	for _, s := range notNumbers() {
		if n, scale, e := num.ParseDec(s); n != 0 || scale != 0 || e != api.ErrNumber {
			t.Errorf("ParseDec(%q) = %d, %d, %d; want 0, 0, ErrNumber", s, n, scale, e)
		}
	}
}

func TestP13FormatInt(t *testing.T) {
	for _, n := range edges() {
		if s := num.FormatInt(n); s != big.NewInt(n).String() {
			t.Errorf("FormatInt(%d) = %q", n, s)
		}
	}
}

func TestP13FormatDec(t *testing.T) {
	for _, x := range []struct {
		v     int64
		scale int
		want  string
		e     api.Errno
	}{
		{0, 0, "0", api.OK}, {0, 3, "0.000", api.OK}, {-5, 2, "-0.05", api.OK}, {5, 0, "5", api.OK}, {-5, 0, "-5", api.OK},
		{99, 2, "0.99", api.OK}, {100, 2, "1.00", api.OK}, {-12345, 2, "-123.45", api.OK}, {1, 18, "0.000000000000000001", api.OK},
		{api.MaxDec, 0, "999999999999999999", api.OK}, {api.MaxDec, 18, "0.999999999999999999", api.OK}, {-api.MaxDec, 17, "-9.99999999999999999", api.OK},
		{math.MinInt64, 0, "-9223372036854775808", api.OK}, {math.MinInt64, 18, "-9.223372036854775808", api.OK}, {math.MaxInt64, 2, "92233720368547758.07", api.OK},
		{1, -1, "", api.ErrArg}, {1, 19, "", api.ErrArg}, {1, math.MinInt, "", api.ErrArg}, {1, math.MaxInt, "", api.ErrArg},
	} {
		if s, e := num.FormatDec(x.v, x.scale); s != x.want || e != x.e {
			t.Errorf("FormatDec(%d, %d) = %q, %d; want %q, %d", x.v, x.scale, s, e, x.want, x.e)
		}
	}
}

func TestP16Numbers(t *testing.T) {
	for _, v := range edges() {
		if n, e := num.ParseInt(num.FormatInt(v)); n != v || e != api.OK {
			t.Errorf("ParseInt(FormatInt(%d)) = %d, %d", v, n, e)
		}
		if !num.Fits(v) {
			continue
		}
		for scale := range api.MaxScale + 1 {
			s, _ := num.FormatDec(v, scale)
			if n, got, e := num.ParseDec(s); n != v || got != scale || e != api.OK {
				t.Errorf("ParseDec(FormatDec(%d, %d)) = %d, %d, %d", v, scale, n, got, e)
			}
		}
	}
}

// FuzzTexts holds the three readers to P1 (no panic, zero results beside an error) and P1.6, starting from texts that are nearly numbers or dates.
func FuzzTexts(f *testing.F) {
	for _, s := range append(notNumbers(), "0", "-0.50", "9223372036854775808", "2000-02-29", "0000-00-00", "9999-99-99") {
		f.Add(s)
	}
	f.Fuzz(func(t *testing.T, s string) {
		if n, e := num.ParseInt(s); e != api.OK && n != 0 {
			t.Errorf("ParseInt(%q) = %d, %d", s, n, e)
		} else if again, g := num.ParseInt(num.FormatInt(n)); again != n || g != api.OK {
			t.Errorf("ParseInt(%q) = %d is not read again", s, n)
		}
		v, scale, e := num.ParseDec(s)
		if e != api.OK && (v != 0 || scale != 0) {
			t.Errorf("ParseDec(%q) = %d, %d, %d", s, v, scale, e)
		}
		written, _ := num.FormatDec(v, scale)
		if again, places, g := num.ParseDec(written); again != v || places != scale || g != api.OK {
			t.Errorf("ParseDec(%q) = %d, %d is not read again", s, v, scale)
		}
		day, e := num.ParseDay(s)
		if e != api.OK && day != 0 {
			t.Errorf("ParseDay(%q) = %d, %d", s, day, e)
		}
		if written, _ := num.FormatDay(day); e == api.OK && written != s {
			t.Errorf("ParseDay(%q) = %d, which is written %q", s, day, written)
		}
	})
}
