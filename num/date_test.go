package num_test

import (
	"math"
	"testing"
	"time"

	"colonnade/api"
	"colonnade/num"
)

// calendar is the library's calendar, which the tests hold num's against.
func calendar(year, month, day int) time.Time {
	return time.Date(year, time.Month(month), day, 0, 0, 0, 0, time.UTC)
}

func TestP14DayOfEveryMonth(t *testing.T) {
	for year := -1; year <= 10001; year++ {
		for month := -1; month <= 14; month++ {
			for _, day := range []int{-1, 0, 1, 27, 28, 29, 30, 31, 32} {
				date := calendar(year, month, day)
				want, wantErr := int64(0), api.ErrDay
				if year >= 1 && year <= 9999 && date.Year() == year && date.Month() == time.Month(month) && date.Day() == day {
					want, wantErr = date.Unix()/86400, api.OK
				}
				if n, e := num.Day(year, month, day); n != want || e != wantErr {
					t.Fatalf("Day(%d, %d, %d) = %d, %d; want %d, %d", year, month, day, n, e, want, wantErr)
				}
			}
		}
	}
}

func TestP14Day(t *testing.T) {
	for _, x := range []struct {
		year, month, day int
		want             int64
		e                api.Errno
	}{
		{1970, 1, 1, 0, api.OK}, {1969, 12, 31, -1, api.OK}, {2000, 3, 1, 11017, api.OK}, {1, 1, 1, api.MinDay, api.OK}, {9999, 12, 31, api.MaxDay, api.OK},
		{2000, 2, 29, 11016, api.OK}, {1900, 2, 29, 0, api.ErrDay}, {2023, 2, 29, 0, api.ErrDay}, {2024, 2, 30, 0, api.ErrDay}, {2024, 4, 31, 0, api.ErrDay},
		{0, 12, 31, 0, api.ErrDay}, {10000, 1, 1, 0, api.ErrDay}, {2000, 0, 1, 0, api.ErrDay}, {2000, 13, 1, 0, api.ErrDay}, {2000, 1, 0, 0, api.ErrDay},
		{-2000, 1, 1, 0, api.ErrDay}, {math.MinInt, math.MinInt, math.MinInt, 0, api.ErrDay}, {math.MaxInt, math.MaxInt, math.MaxInt, 0, api.ErrDay},
		{2000, 1, math.MaxInt, 0, api.ErrDay}, {2000, 1, math.MinInt, 0, api.ErrDay}, {2000, math.MaxInt, 1, 0, api.ErrDay}, {2000, math.MinInt, 1, 0, api.ErrDay},
	} {
		if n, e := num.Day(x.year, x.month, x.day); n != x.want || e != x.e {
			t.Errorf("Day(%d, %d, %d) = %d, %d; want %d, %d", x.year, x.month, x.day, n, e, x.want, x.e)
		}
	}
}

// TestP14P17EveryDay walks over all days: each is the date after the one before it, and Day is Civil's inverse.
func TestP14P17EveryDay(t *testing.T) {
	date := calendar(1, 1, 1)
	for n := int64(api.MinDay); n <= api.MaxDay; n++ {
		year, month, day, e := num.Civil(n)
		wantYear, wantMonth, wantDay := date.Date()
		if year != wantYear || month != int(wantMonth) || day != wantDay || e != api.OK {
			t.Fatalf("Civil(%d) = %d, %d, %d, %d; want %s", n, year, month, day, e, date.Format(time.DateOnly))
		}
		if back, e := num.Day(year, month, day); back != n || e != api.OK {
			t.Fatalf("Day(Civil(%d)) = %d, %d", n, back, e)
		}
		date = date.AddDate(0, 0, 1)
	}
}

func TestP14P16Texts(t *testing.T) {
	date := calendar(1, 1, 1)
	for n := int64(api.MinDay); n <= api.MaxDay; n++ {
		s, e := num.FormatDay(n)
		if s != date.Format(time.DateOnly) || e != api.OK {
			t.Fatalf("FormatDay(%d) = %q, %d; want %s", n, s, e, date.Format(time.DateOnly))
		}
		if back, e := num.ParseDay(s); back != n || e != api.OK {
			t.Fatalf("ParseDay(%q) = %d, %d; want %d", s, back, e, n)
		}
		date = date.AddDate(0, 0, 1)
	}
}

func TestP14NoSuchDay(t *testing.T) {
	for _, n := range []int64{api.MinDay - 1, api.MaxDay + 1, math.MinInt64, math.MaxInt64} {
		if year, month, day, e := num.Civil(n); year != 0 || month != 0 || day != 0 || e != api.ErrDay {
			t.Errorf("Civil(%d) = %d, %d, %d, %d; want ErrDay", n, year, month, day, e)
		}
		if s, e := num.FormatDay(n); s != "" || e != api.ErrDay {
			t.Errorf("FormatDay(%d) = %q, %d; want ErrDay", n, s, e)
		}
	}
}

func TestP14ParseDay(t *testing.T) {
	for _, x := range []struct {
		s    string
		want int64
		e    api.Errno
	}{
		{"1970-01-01", 0, api.OK}, {"0001-01-01", api.MinDay, api.OK}, {"9999-12-31", api.MaxDay, api.OK}, {"2000-02-29", 11016, api.OK},
		{"2023-02-29", 0, api.ErrDay}, {"1900-02-29", 0, api.ErrDay}, {"0000-01-01", 0, api.ErrDay}, {"2000-00-01", 0, api.ErrDay},
		{"2000-13-01", 0, api.ErrDay}, {"2000-01-00", 0, api.ErrDay}, {"2000-01-32", 0, api.ErrDay}, {"9999-99-99", 0, api.ErrDay},
		{"", 0, api.ErrNumber}, {"2000-1-01", 0, api.ErrNumber}, {"2000-01-1", 0, api.ErrNumber}, {"200-01-001", 0, api.ErrNumber}, {"02000-01-01", 0, api.ErrNumber},
		{"2000-01-01 ", 0, api.ErrNumber}, {" 2000-01-01", 0, api.ErrNumber}, {"2000/01/01", 0, api.ErrNumber}, {"2000-01/01", 0, api.ErrNumber}, {"2000/01-01", 0, api.ErrNumber},
		{"-200-01-01", 0, api.ErrNumber}, {"+200-01-01", 0, api.ErrNumber}, {"2000--1-01", 0, api.ErrNumber}, {"2000-01--1", 0, api.ErrNumber}, {"20000101", 0, api.ErrNumber},
		{"a000-01-01", 0, api.ErrNumber}, {"2000-0a-01", 0, api.ErrNumber}, {"2000-01-0a", 0, api.ErrNumber}, {"2000-01-01-01", 0, api.ErrNumber}, {"----------", 0, api.ErrNumber},
		{"2000-01-01T", 0, api.ErrNumber}, {"-2000-01-01", 0, api.ErrNumber}, {"10000-01-01", 0, api.ErrNumber}, {"٣0-01-01", 0, api.ErrNumber},
		// A text that is no date is told before one that names a day that does not exist.
		{"2023-02-2x", 0, api.ErrNumber}, {"0000-00-0:", 0, api.ErrNumber}, {"9999-99-990", 0, api.ErrNumber},
	} {
		if n, e := num.ParseDay(x.s); n != x.want || e != x.e {
			t.Errorf("ParseDay(%q) = %d, %d; want %d, %d", x.s, n, e, x.want, x.e)
		}
	}
}
