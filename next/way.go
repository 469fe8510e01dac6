package next

import (
	"iter"
	"math/bits"

	"reveille/api"
	"reveille/civil"
	"reveille/cron"
)

const (
	hour        = 60 * api.Minute
	yearMonths  = 12
	firstMonth  = 1 * yearMonths
	lastMonth   = 9999*yearMonths + yearMonths - 1
	cycleYears  = 400 // behind these the calendar repeats itself, weekdays too
	cycleMonths = cycleYears * yearMonths
)

// way is a direction in time. Values (days, hours, minutes) are bits of a set.
type way struct {
	step  int                            // to the next month
	next  func(set uint64) int           // the first value on this way
	since func(set uint64, v int) uint64 // the values that are not ahead of v on this way
	start api.Date                       // the hour and the minute where a day begins on this way
}

func forwards() way {
	return way{
		step:  1,
		next:  bits.TrailingZeros64,
		since: func(set uint64, v int) uint64 { return set &^ below(set, v) },
	}
}

func backwards() way {
	return way{
		step:  -1,
		next:  func(set uint64) int { return bits.Len64(set) - 1 },
		since: func(set uint64, v int) uint64 { return below(set, v+1) },
		start: api.Date{Hour: 23, Minute: 59},
	}
}

// below is the values of a set that are less than v.
func below(set uint64, v int) uint64 { return set & (1<<v - 1) }

func has(set uint64, v int) bool { return set>>v&1 == 1 }

// each goes over a set's values.
func (w way) each(set uint64) iter.Seq[int] {
	return func(yield func(int) bool) {
		for rest := set; rest != 0; {
			v := w.next(rest)
			if !yield(v) {
				return
			}
			rest &^= 1 << v
		}
	}
}

// moments goes over those that match, from the moment at on; there are none where at is no time.
func (w way) moments(s api.Spec, at int) iter.Seq[int] {
	return func(yield func(int) bool) {
		d, e := civil.Of(at)
		if e != api.OK {
			return
		}
		today := civil.Floor(at, api.Day)
		for midnight := range w.midnights(s, d) {
			from := w.start
			if midnight == today {
				from = d
			}
			for second := range w.clock(s, from) {
				if !yield(midnight + second) {
					return
				}
			}
		}
	}
}

// midnights goes over the beginnings of the days that match, from a date's day on.
func (w way) midnights(s api.Spec, from api.Date) iter.Seq[int] {
	return func(yield func(int) bool) {
		month := from.Year*yearMonths + from.Month - 1
		days := w.since(monthDays(s, month), from.Day)
		// A spec that matches on no day of a whole cycle, and of the first month's rest, never does.
		for empty := 0; empty <= cycleMonths && month >= firstMonth && month <= lastMonth; empty++ {
			for day := range w.each(days) {
				empty = 0
				if !yield(midnight(month, day)) {
					return
				}
			}
			month += w.step
			days = monthDays(s, month)
		}
	}
}

// clock goes over the spec's seconds of a day, from the hour and the minute of a date on.
func (w way) clock(s api.Spec, from api.Date) iter.Seq[int] {
	return func(yield func(int) bool) {
		for h := range w.each(w.since(s.Hours, from.Hour)) {
			minutes := s.Minutes
			if h == from.Hour {
				minutes = w.since(minutes, from.Minute)
			}
			for m := range w.each(minutes) {
				if !yield(h*hour + m*api.Minute) {
					return
				}
			}
		}
	}
}

// monthDays is the days of a month on which the spec matches. Months are counted on through the years, from the year 0 on.
func monthDays(s api.Spec, month int) uint64 {
	year, inYear := month/yearMonths, month%yearMonths+1
	number, e := civil.Number(year, inYear, 1)
	if e != api.OK || !has(s.Months, inYear) {
		return 0
	}
	var days uint64
	d := api.Date{Day: 1, Weekday: civil.Weekday(number)}
	for ; d.Day <= civil.Length(year, inYear); d.Day++ {
		if cron.Day(s, d) {
			days |= 1 << d.Day
		}
		d.Weekday = (d.Weekday + 1) % 7
	}
	return days
}

// midnight is when a day of a month begins; the month is one of a year from 1 to 9999.
func midnight(month, day int) int {
	number, _ := civil.Number(month/yearMonths, month%yearMonths+1, day)
	return number * api.Day
}
