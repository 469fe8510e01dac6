// Package cron is layer 2: when a job is due. See shared/doc/02-cron.md.
package cron

import (
	"reveille/api"
	"reveille/civil"
)

// fields is how many a spec has: minutes, hours, days of the month, months, days of the week.
const fields = 5

// scope is a field's least and greatest value, and the greatest number that may be said of it: 7 is a Sunday too.
type scope struct {
	least int
	most  int
	said  int
}

var scopes = [fields]scope{
	{0, 59, 59},
	{0, 23, 23},
	{1, 31, 31},
	{1, 12, 12},
	{0, 6, 7},
}

// values is the bits of first and of each step-th number behind it, up to last.
func (s scope) values(first, last, step int) uint64 {
	var bits uint64
	for v := first; v <= last; v += step {
		if v > s.most {
			bits |= 1 << s.least
		} else {
			bits |= 1 << v
		}
	}
	return bits
}

func (s scope) all() uint64 { return 1<<(s.most+1) - 1<<s.least }

// marks is what a field says: its values' bits, and whether they are by a star.
type marks struct {
	bits uint64
	star bool
}

func specOf(m [fields]marks) api.Spec {
	return api.Spec{
		Minutes:  m[0].bits,
		Hours:    m[1].bits,
		Days:     m[2].bits,
		Months:   m[3].bits,
		Weekdays: m[4].bits,
		AnyDay:   m[2].star,
		AnyWeek:  m[4].star,
	}
}

// marksOf is the fields of a spec. Of days alone a spec keeps whether there was a star; the other fields are as if there was one where all values are there.
func marksOf(s api.Spec) [fields]marks {
	return [fields]marks{
		{s.Minutes, s.Minutes == scopes[0].all()},
		{s.Hours, s.Hours == scopes[1].all()},
		{s.Days, s.AnyDay},
		{s.Months, s.Months == scopes[3].all()},
		{s.Weekdays, s.AnyWeek},
	}
}

// May: has each field a value, and none that it may not have?
func May(s api.Spec) bool {
	for i, m := range marksOf(s) {
		if m.bits == 0 || m.bits&^scopes[i].all() != 0 {
			return false
		}
	}
	return true
}

// Matches: is the time one of the spec's?
func Matches(s api.Spec, t int) bool {
	d, e := civil.Of(t)
	if e != api.OK {
		return false
	}
	return has(s.Minutes, d.Minute) && has(s.Hours, d.Hour) && has(s.Months, d.Month) && Day(s, d)
}

// Day: is the date's day one of the spec's, in whichever month?
func Day(s api.Spec, d api.Date) bool {
	if d.Day < 1 || d.Day > 31 || d.Weekday < 0 || d.Weekday > 6 {
		return false
	}
	day, week := has(s.Days, d.Day), has(s.Weekdays, d.Weekday)
	if s.AnyDay || s.AnyWeek {
		return day && week
	}
	return day || week
}

func has(bits uint64, v int) bool { return bits>>v&1 == 1 }
