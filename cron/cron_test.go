package cron

import (
	"math"
	"math/rand"
	"testing"
	"time"

	"reveille/api"
)

const (
	allMinutes  = 1<<60 - 1
	allHours    = 1<<24 - 1
	allDays     = 1<<32 - 2
	allMonths   = 1<<13 - 2
	allWeekdays = 1<<7 - 1
)

// always matches each moment.
func always() api.Spec {
	return api.Spec{Minutes: allMinutes, Hours: allHours, Days: allDays, Months: allMonths, Weekdays: allWeekdays, AnyDay: true, AnyWeek: true}
}

func parsed(t *testing.T, text string) api.Spec {
	t.Helper()
	s, e, place := Parse(text)
	if e != api.OK || place != 0 {
		t.Fatal(text, e, place)
	}
	return s
}

func timeOf(year, month, day, hour, minute, second int) int {
	return int(time.Date(year, time.Month(month), day, hour, minute, second, 0, time.UTC).Unix())
}

// P2.2

func TestMay(t *testing.T) {
	if !May(always()) {
		t.Error("always")
	}
	for name, at := range map[string]func(s *api.Spec) *uint64{
		"minutes":  func(s *api.Spec) *uint64 { return &s.Minutes },
		"hours":    func(s *api.Spec) *uint64 { return &s.Hours },
		"days":     func(s *api.Spec) *uint64 { return &s.Days },
		"months":   func(s *api.Spec) *uint64 { return &s.Months },
		"weekdays": func(s *api.Spec) *uint64 { return &s.Weekdays },
	} {
		full := always()
		for bit := range 64 {
			s := always()
			within := *at(&full)&(1<<bit) != 0
			if *at(&s) = 1 << bit; May(s) != within {
				t.Error(name, bit, "alone")
			}
			if *at(&s) = *at(&full) | 1<<bit; May(s) != within {
				t.Error(name, bit, "beside all")
			}
		}
		s := always()
		if *at(&s) = 0; May(s) {
			t.Error(name, "none")
		}
		if *at(&s) = math.MaxUint64; May(s) {
			t.Error(name, "all 64")
		}
	}
	for _, star := range []bool{false, true} {
		s := always()
		s.AnyDay, s.AnyWeek = star, !star
		if !May(s) {
			t.Error("stars are free", star)
		}
	}
	if May(api.Spec{}) {
		t.Error("an empty one")
	}
}

// P2.3

func TestDay(t *testing.T) {
	for _, c := range []struct {
		anyDay, anyWeek   bool
		both, one, either bool
	}{
		{true, true, true, false, false},
		{true, false, true, false, false},
		{false, true, true, false, false},
		{false, false, true, true, true},
	} {
		s := always()
		s.Days, s.Weekdays, s.Months, s.Minutes = 1<<13|1<<31, 1<<0|1<<5, 0, 0
		s.AnyDay, s.AnyWeek = c.anyDay, c.anyWeek
		for _, day := range []int{13, 31} {
			for _, weekday := range []int{0, 5} {
				if Day(s, api.Date{Day: day, Weekday: weekday}) != c.both {
					t.Error(c, "both", day, weekday)
				}
			}
		}
		if Day(s, api.Date{Day: 13, Weekday: 4}) != c.one || Day(s, api.Date{Day: 12, Weekday: 5}) != c.either {
			t.Error(c, "one of the two")
		}
		if Day(s, api.Date{Day: 12, Weekday: 4}) {
			t.Error(c, "neither")
		}
	}
}

func TestDayOutOfRange(t *testing.T) {
	s := api.Spec{Days: math.MaxUint64, Weekdays: math.MaxUint64}
	for _, star := range []bool{false, true} {
		s.AnyDay, s.AnyWeek = star, star
		for _, n := range []int{0, -1, 32, 63, 64, math.MinInt, math.MaxInt} {
			if Day(s, api.Date{Day: n, Weekday: 3}) {
				t.Error("day", n)
			}
		}
		for _, n := range []int{-1, 7, 63, 64, math.MinInt, math.MaxInt} {
			if Day(s, api.Date{Day: 3, Weekday: n}) {
				t.Error("weekday", n)
			}
		}
		for _, d := range []api.Date{{Day: 1, Weekday: 0}, {Day: 31, Weekday: 6}} {
			if !Day(s, d) {
				t.Error("at the edge", d)
			}
		}
	}
}

func TestMatches(t *testing.T) {
	for _, c := range []struct {
		text string
		at   int
		want bool
	}{
		{"*/15 9-17 * * mon-fri", timeOf(2024, 3, 1, 9, 45, 0), true},
		{"*/15 9-17 * * mon-fri", timeOf(2024, 3, 1, 9, 50, 0), false},
		{"*/15 9-17 * * mon-fri", timeOf(2024, 3, 1, 18, 0, 0), false},
		{"*/15 9-17 * * mon-fri", timeOf(2024, 3, 2, 9, 45, 0), false},
		{"* * * * *", timeOf(2024, 3, 1, 9, 45, 59), true},
		{"45 9 1 3 *", timeOf(2024, 3, 1, 9, 45, 59), true},
		{"45 9 1 3 *", timeOf(2024, 3, 1, 9, 46, 0), false},
		{"45 9 1 3 *", timeOf(2024, 3, 1, 10, 45, 0), false},
		{"45 9 1 3 *", timeOf(2024, 3, 2, 9, 45, 0), false},
		{"45 9 1 3 *", timeOf(2024, 4, 1, 9, 45, 0), false},
		{"0 0 13 * fri", timeOf(2024, 9, 13, 0, 0, 0), true},
		{"0 0 13 * fri", timeOf(2024, 10, 13, 0, 0, 0), true},
		{"0 0 13 * fri", timeOf(2024, 10, 18, 0, 0, 0), true},
		{"0 0 13 * fri", timeOf(2024, 10, 19, 0, 0, 0), false},
		{"0 0 */2 * fri", timeOf(2024, 10, 18, 0, 0, 0), false},
		{"0 0 */2 * fri", timeOf(2024, 10, 25, 0, 0, 0), true},
		{"0 0 13 * */5", timeOf(2024, 9, 13, 0, 0, 0), true},
		{"0 0 13 * */5", timeOf(2024, 11, 13, 0, 0, 0), false},
		{"0 0 29 2 *", timeOf(2024, 2, 29, 0, 0, 0), true},
		{"* * * * *", api.MinTime, true},
		{"* * * * *", api.MaxTime, true},
		{"* * * * *", api.MinTime - 1, false},
		{"* * * * *", api.MaxTime + 1, false},
		{"* * * * *", math.MinInt, false},
		{"* * * * *", math.MaxInt, false},
	} {
		if got := Matches(parsed(t, c.text), c.at); got != c.want {
			t.Error(c, got)
		}
	}
	if Matches(api.Spec{}, 0) {
		t.Error("an empty one")
	}
}

// TestMatchesAll holds random specs against the library's calendar.
func TestMatchesAll(t *testing.T) {
	r := rand.New(rand.NewSource(1))
	bit := func(bits uint64, n int) bool { return bits&(1<<n) != 0 }
	for range 20000 {
		s := api.Spec{Minutes: r.Uint64(), Hours: r.Uint64(), Days: r.Uint64(), Months: r.Uint64(), Weekdays: r.Uint64(), AnyDay: r.Intn(2) == 0, AnyWeek: r.Intn(2) == 0}
		at := api.MinTime + r.Intn(api.MaxTime-api.MinTime+1)
		u := time.Unix(int64(at), 0).UTC()
		day, week := bit(s.Days, u.Day()), bit(s.Weekdays, int(u.Weekday()))
		days := day || week
		if s.AnyDay || s.AnyWeek {
			days = day && week
		}
		if got := Day(s, api.Date{Day: u.Day(), Weekday: int(u.Weekday())}); got != days {
			t.Fatal(s, u, got)
		}
		want := bit(s.Minutes, u.Minute()) && bit(s.Hours, u.Hour()) && bit(s.Months, int(u.Month())) && days
		if got := Matches(s, at); got != want {
			t.Fatal(s, u, got)
		}
	}
}
