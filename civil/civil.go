// Package civil is layer 1: dates and times. See shared/doc/01-civil.md.
package civil

import "reveille/api"

const (
	lastYear   = 9999
	hour       = 3600
	epoch      = -api.MinTime / api.Day // days from 0001-01-01 to 1970-01-01
	cycleYears = 400                    // the calendar repeats itself behind these
	cycleDays  = 146097
)

var lengths = [12]int{31, 28, 31, 30, 31, 30, 31, 31, 30, 31, 30, 31}

// Leap: has the year a 29th of February?
func Leap(year int) bool {
	return year%4 == 0 && (year%100 != 0 || year%400 == 0)
}

// Length is how many days a month has; 0 of what is no month.
func Length(year, month int) int {
	if month < 1 || month > len(lengths) {
		return 0
	}
	if month == 2 && Leap(year) {
		return 29
	}
	return lengths[month-1]
}

// Number is a day's number, counted from 1970-01-01.
func Number(year, month, day int) (int, api.Errno) {
	// What is no month has no days, so the day is out of its range there too.
	if year < 1 || year > lastYear || day < 1 || day > Length(year, month) {
		return 0, api.ErrDate
	}
	number := newYear(year) + day - 1
	for m := 1; m < month; m++ {
		number += Length(year, m)
	}
	return number, api.OK
}

// newYear is the number of a year's first day.
func newYear(year int) int {
	past := year - 1
	return past*365 + past/4 - past/100 + past/400 - epoch
}

// Weekday is that of the day of a number.
func Weekday(number int) int {
	// The rest is taken first, so that no number is too great to be added to.
	return (number%7 + 7 + 4) % 7
}

// At is the time of a date.
func At(d api.Date) (int, api.Errno) {
	number, e := Number(d.Year, d.Month, d.Day)
	if e != api.OK {
		return 0, e
	}
	if !below(d.Hour, 24) || !below(d.Minute, 60) || !below(d.Second, 60) {
		return 0, api.ErrDate
	}
	return number*api.Day + d.Hour*hour + d.Minute*api.Minute + d.Second, api.OK
}

func below(n, limit int) bool { return n >= 0 && n < limit }

// Of is the date of a time.
func Of(t int) (api.Date, api.Errno) {
	if t < api.MinTime || t > api.MaxTime {
		return api.Date{}, api.ErrDate
	}
	midnight := Floor(t, api.Day)
	d := dayOf(midnight / api.Day)
	second := t - midnight
	d.Hour = second / hour
	d.Minute = second % hour / api.Minute
	d.Second = second % api.Minute
	return d, api.OK
}

// dayOf is the date of a day's number, at midnight.
func dayOf(number int) api.Date {
	// Years are of two lengths: by their mean the year is hit, or one beside it.
	year := (number+epoch)*cycleYears/cycleDays + 1
	for newYear(year) > number {
		year--
	}
	for newYear(year+1) <= number {
		year++
	}
	month, day := 1, number-newYear(year)+1
	for day > Length(year, month) {
		day -= Length(year, month)
		month++
	}
	return api.Date{Year: year, Month: month, Day: day, Weekday: Weekday(number)}
}

// Floor is the greatest multiple of size that is at most t.
func Floor(t, size int) int {
	if size < 1 {
		return t
	}
	rest := t % size
	if rest < 0 {
		rest += size
	}
	floor := t - rest
	// Below the least int the difference wraps round: there is no such multiple.
	if floor > t {
		return t
	}
	return floor
}
