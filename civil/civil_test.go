package civil

import (
	"math"
	"math/rand"
	"testing"
	"time"

	"reveille/api"
)

func utc(t int) time.Time { return time.Unix(int64(t), 0).UTC() }

// dateOf is a date by the library's calendar, which shares nothing with the program's.
func dateOf(t int) api.Date {
	u := utc(t)
	return api.Date{Year: u.Year(), Month: int(u.Month()), Day: u.Day(), Hour: u.Hour(), Minute: u.Minute(), Second: u.Second(), Weekday: int(u.Weekday())}
}

// P1.1

func TestLeap(t *testing.T) {
	for year, want := range map[int]bool{
		2024: true, 2023: false, 2025: false, 2026: false, 1900: false, 2000: true, 2100: false, 400: true, 100: false, 4: true, 1: false,
		0: true, -1: false, -4: true, -100: false, -400: true, -2: false, 10000: true, 9999: false,
		math.MinInt: true, math.MaxInt: false,
	} {
		if got := Leap(year); got != want {
			t.Errorf("Leap(%d) = %v", year, got)
		}
	}
}

func TestLength(t *testing.T) {
	for _, year := range []int{-400, -100, -4, -1, 0, 1, 4, 100, 1900, 2000, 2023, 2024, 9999, 12000} {
		for month := 1; month <= 12; month++ {
			want := time.Date(year, time.Month(month)+1, 0, 0, 0, 0, 0, time.UTC).Day()
			if got := Length(year, month); got != want {
				t.Errorf("Length(%d, %d) = %d, not %d", year, month, got, want)
			}
		}
		for _, month := range []int{0, 13, -1, math.MinInt, math.MaxInt} {
			if got := Length(year, month); got != 0 {
				t.Errorf("Length(%d, %d) = %d", year, month, got)
			}
		}
	}
}

func TestNumber(t *testing.T) {
	for _, c := range []struct{ year, month, day, want int }{
		{1970, 1, 1, 0}, {1970, 1, 2, 1}, {1969, 12, 31, -1}, {2000, 2, 29, 11016}, {2000, 3, 1, 11017},
		{1, 1, 1, api.MinTime / api.Day}, {9999, 12, 31, (api.MaxTime+1)/api.Day - 1},
	} {
		if got, e := Number(c.year, c.month, c.day); e != api.OK || got != c.want {
			t.Error(c, got, e)
		}
	}
	for _, c := range [][3]int{
		{0, 1, 1}, {-1, 1, 1}, {10000, 1, 1}, {math.MaxInt, 1, 1}, {math.MinInt, 1, 1},
		{2000, 0, 1}, {2000, 13, 1}, {2000, -1, 1}, {2000, math.MaxInt, 1},
		{2000, 1, 0}, {2000, 1, 32}, {2000, 1, -1}, {2000, 4, 31}, {2000, 2, 30}, {2023, 2, 29}, {1900, 2, 29}, {2000, 1, math.MaxInt}, {2000, 0, 0},
	} {
		if got, e := Number(c[0], c[1], c[2]); e != api.ErrDate || got != 0 {
			t.Error(c, got, e)
		}
	}
}

func TestWeekday(t *testing.T) {
	for number, want := range map[int]int{
		0: 4, 1: 5, 2: 6, 3: 0, -1: 3, -4: 0, -5: 6, -7: 4, 11016: 2,
		math.MaxInt: (math.MaxInt%7 + 4) % 7, math.MinInt: (math.MinInt%7 + 11) % 7,
	} {
		if got := Weekday(number); got != want {
			t.Errorf("Weekday(%d) = %d, not %d", number, got, want)
		}
	}
	for _, end := range []int{math.MinInt, math.MaxInt - 100, -50} {
		for n := end; n < end+99; n++ {
			if Weekday(n+1) != (Weekday(n)+1)%7 {
				t.Errorf("Weekday(%d) = %d, behind %d", n+1, Weekday(n+1), Weekday(n))
			}
		}
	}
}

// P1.2

func TestAt(t *testing.T) {
	leapDay := api.Date{Year: 2000, Month: 2, Day: 29, Hour: 12, Minute: 34, Second: 56}
	for _, weekday := range []int{0, 2, 6, 7, -1, math.MaxInt} {
		d := leapDay
		d.Weekday = weekday
		if got, e := At(d); e != api.OK || got != 951782400+12*3600+34*60+56 {
			t.Error(d, got, e)
		}
	}
	for _, c := range []struct {
		name   string
		first  int
		last   int
		change func(d *api.Date, n int)
	}{
		{"year", 1, 9999, func(d *api.Date, n int) { d.Year = n }},
		{"month", 1, 12, func(d *api.Date, n int) { d.Month = n }},
		{"day", 1, 31, func(d *api.Date, n int) { d.Day = n }},
		{"hour", 0, 23, func(d *api.Date, n int) { d.Hour = n }},
		{"minute", 0, 59, func(d *api.Date, n int) { d.Minute = n }},
		{"second", 0, 59, func(d *api.Date, n int) { d.Second = n }},
	} {
		for _, n := range []int{c.first, c.last} {
			d := api.Date{Year: 2000, Month: 3, Day: 15, Hour: 12, Minute: 34, Second: 56}
			c.change(&d, n)
			at, e := At(d)
			d.Weekday = dateOf(at).Weekday
			if e != api.OK || dateOf(at) != d {
				t.Error(c.name, n, at, e)
			}
		}
		for _, n := range []int{c.first - 1, c.last + 1, -1, math.MinInt, math.MaxInt} {
			d := api.Date{Year: 2000, Month: 3, Day: 15, Hour: 12, Minute: 34, Second: 56}
			c.change(&d, n)
			if at, e := At(d); e != api.ErrDate || at != 0 {
				t.Error(c.name, n, at, e)
			}
		}
	}
}

func TestOf(t *testing.T) {
	if d, e := Of(951782400); e != api.OK || d != (api.Date{Year: 2000, Month: 2, Day: 29, Weekday: 2}) {
		t.Error("the document's example", d, e)
	}
	times := []int{0, -1, 1, 59, 60, 3599, 3600, api.Day - 1, api.Day, -api.Day, -api.Day - 1, api.MinTime, api.MinTime + 1, api.MaxTime, api.MaxTime - 1}
	r := rand.New(rand.NewSource(1))
	for range 20000 {
		times = append(times, api.MinTime+r.Intn(api.MaxTime-api.MinTime+1))
	}
	for _, at := range times {
		if d, e := Of(at); e != api.OK || d != dateOf(at) {
			t.Fatal(at, d, e)
		}
	}
	for _, at := range []int{api.MinTime - 1, api.MaxTime + 1, math.MinInt, math.MaxInt} {
		if d, e := Of(at); e != api.ErrDate || d != (api.Date{}) {
			t.Error(at, d, e)
		}
	}
}

func TestFloor(t *testing.T) {
	for _, c := range []struct{ t, size, want int }{
		{0, 60, 0}, {59, 60, 0}, {60, 60, 60}, {61, 60, 60}, {-1, 60, -60}, {-60, 60, -60}, {-61, 60, -120},
		{7, 1, 7}, {-7, 1, -7}, {5, 0, 5}, {5, -1, 5}, {-5, -60, -5}, {5, math.MinInt, 5},
		{5, math.MaxInt, 0}, {-5, math.MaxInt, -math.MaxInt}, {math.MaxInt, math.MaxInt, math.MaxInt},
		{math.MinInt, 1, math.MinInt}, {math.MinInt, 2, math.MinInt}, {math.MinInt, 60, math.MinInt}, {math.MinInt, math.MaxInt, math.MinInt},
		{math.MinInt + 10, 60, math.MinInt + 8}, {math.MinInt + 7, 60, math.MinInt + 7}, {-math.MaxInt, math.MaxInt, -math.MaxInt},
		{math.MaxInt, 60, math.MaxInt - 7},
	} {
		if got := Floor(c.t, c.size); got != c.want {
			t.Errorf("Floor(%d, %d) = %d, not %d", c.t, c.size, got, c.want)
		}
	}
}

// P1.3

// TestCalendar goes from the first day to the last one.
func TestCalendar(t *testing.T) {
	number, weekday, newYear := api.MinTime/api.Day, 1, 1
	for year := 1; year <= 9999; year++ {
		days := 0
		for month := 1; month <= 12; month++ {
			for day := 1; day <= Length(year, month); day++ {
				want := api.Date{Year: year, Month: month, Day: day, Weekday: weekday}
				if got, e := Of(number * api.Day); e != api.OK || got != want {
					t.Fatal(want, got, e)
				}
				if got, e := At(want); e != api.OK || got != number*api.Day {
					t.Fatal(want, got, e)
				}
				if got, e := Number(year, month, day); e != api.OK || got != number {
					t.Fatal(want, got, e)
				}
				if Weekday(number) != weekday {
					t.Fatal(want, Weekday(number))
				}
				number, weekday, days = number+1, (weekday+1)%7, days+1
			}
		}
		if newYear = (newYear + days) % 7; days != 365 && days != 366 || weekday != newYear {
			t.Fatal("a year's days", year, days)
		}
	}
	if number*api.Day != api.MaxTime+1 {
		t.Error("the last day", number)
	}
}

func TestInverse(t *testing.T) {
	r := rand.New(rand.NewSource(2))
	for range 20000 {
		at := api.MinTime + r.Intn(api.MaxTime-api.MinTime+1)
		d, e := Of(at)
		if back, e2 := At(d); e != api.OK || e2 != api.OK || back != at {
			t.Fatal(at, d, back, e, e2)
		}
	}
}
