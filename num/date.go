package num

import "colonnade/api"

const (
	maxYear  = 9999
	february = 2
	leapYear = 366
)

// monthLengths are the days of the months, from January on, of a year that is no leap year.
var monthLengths = [12]int{31, 28, 31, 30, 31, 30, 31, 31, 30, 31, 30, 31}

// Day returns the number of days from 1970-01-01 to a date, or ErrDay if there is no such date.
func Day(year, month, day int) (int64, api.Errno) {
	if year < 1 || year > maxYear || month < 1 || month > len(monthLengths) {
		return 0, api.ErrDay
	}
	if day < 1 || day > monthLength(year, month) {
		return 0, api.ErrDay
	}
	n := daysBefore(year)
	for m := 1; m < month; m++ {
		n += monthLength(year, m)
	}
	return api.MinDay + int64(n+day-1), api.OK
}

// Civil returns the year, the month and the day of a day's number, or ErrDay if it is not from MinDay to MaxDay.
func Civil(n int64) (int, int, int, api.Errno) {
	if !isDay(n) {
		return 0, 0, 0, api.ErrDay
	}
	days := int(n - api.MinDay)
	// No year is longer than a leap year, so this is at most some twenty years too early.
	year := days/leapYear + 1
	for daysBefore(year+1) <= days {
		year++
	}
	days -= daysBefore(year)
	month := 1
	for days >= monthLength(year, month) {
		days -= monthLength(year, month)
		month++
	}
	return year, month, days + 1, api.OK
}

// ParseDay reads a date of the form 2000-12-31: ErrNumber if s is not of this form, ErrDay if there is no such date.
func ParseDay(s string) (int64, api.Errno) {
	if len(s) != 10 || s[4] != '-' || s[7] != '-' {
		return 0, api.ErrNumber
	}
	year, month, day := s[:4], s[5:7], s[8:]
	if !allDigits(year) || !allDigits(month) || !allDigits(day) {
		return 0, api.ErrNumber
	}
	return Day(smallNumber(year), smallNumber(month), smallNumber(day))
}

// FormatDay returns a day's number in the form 2000-12-31, or ErrDay if it is not from MinDay to MaxDay.
func FormatDay(n int64) (string, api.Errno) {
	year, month, day, e := Civil(n)
	if e != api.OK {
		return "", e
	}
	return padded(uint64(year), 4) + "-" + padded(uint64(month), 2) + "-" + padded(uint64(day), 2), api.OK
}

func isDay(n int64) bool {
	return api.MinDay <= n && n <= api.MaxDay
}

func isLeap(year int) bool {
	return year%4 == 0 && (year%100 != 0 || year%400 == 0)
}

func monthLength(year, month int) int {
	if month == february && isLeap(year) {
		return monthLengths[month-1] + 1
	}
	return monthLengths[month-1]
}

// daysBefore returns the number of days from 0001-01-01 to the first day of a year.
func daysBefore(year int) int {
	past := year - 1
	return 365*past + past/4 - past/100 + past/400
}

// smallNumber returns the number that a few digits form.
func smallNumber(digits string) int {
	n := 0
	for i := range len(digits) {
		n = 10*n + int(digits[i]-'0')
	}
	return n
}
