package next

import (
	"math/bits"

	"reveille/api"
	"reveille/civil"
	"reveille/cron"
)

// Count is how many moments match, at least from and below to.
func Count(s api.Spec, from, to int) int {
	// The last time is no moment, so that none is lost where it stands for one above.
	from, to = bounded(from), bounded(to)
	if !cron.May(s) || from >= to {
		return 0
	}
	first, _ := civil.Of(from)
	last, _ := civil.Of(to)
	return daysOfYears(s, first.Year, last.Year)*timesOfDay(s) + passed(s, last) - passed(s, first)
}

// Days is on how many days of a year it matches.
func Days(s api.Spec, year int) int {
	if !cron.May(s) || year < 1 || year > lastMonth/yearMonths {
		return 0
	}
	return daysBefore(s, year, yearMonths+1)
}

// daysOfYears is on how many days it matches, from a year on, ahead of another one.
func daysOfYears(s api.Spec, from, to int) int {
	cycles, rest := (to-from)/cycleYears, (to-from)%cycleYears
	days := sumOfYears(s, from, rest)
	if cycles > 0 {
		days += cycles * sumOfYears(s, from, cycleYears)
	}
	return days
}

func sumOfYears(s api.Spec, from, years int) int {
	days := 0
	for i := range years {
		days += Days(s, from+i)
	}
	return days
}

// daysBefore is on how many days of a year it matches, ahead of a month (1 to 13).
func daysBefore(s api.Spec, year, month int) int {
	days := 0
	for m := range month - 1 {
		days += bits.OnesCount64(monthDays(s, year*yearMonths+m))
	}
	return days
}

// timesOfDay is how often it matches on a day on which it does.
func timesOfDay(s api.Spec) int {
	return bits.OnesCount64(s.Hours) * bits.OnesCount64(s.Minutes)
}

// passed is how many moments match in a date's year, ahead of the date.
func passed(s api.Spec, d api.Date) int {
	days := monthDays(s, d.Year*yearMonths+d.Month-1)
	whole := daysBefore(s, d.Year, d.Month) + bits.OnesCount64(below(days, d.Day))
	count := whole * timesOfDay(s)
	if has(days, d.Day) {
		count += passedToday(s, d)
	}
	return count
}

// passedToday is how many moments match on a date's day, on which the spec does, ahead of the date.
func passedToday(s api.Spec, d api.Date) int {
	count := bits.OnesCount64(below(s.Hours, d.Hour)) * bits.OnesCount64(s.Minutes)
	if !has(s.Hours, d.Hour) {
		return count
	}
	minute := d.Minute
	// The minute's first second is ahead of all its others.
	if d.Second > 0 {
		minute++
	}
	return count + bits.OnesCount64(below(s.Minutes, minute))
}
