package next

import (
	"math"
	"math/rand"
	"slices"
	"testing"
	"time"

	"reveille/api"
	"reveille/cron"
)

const lastMoment = api.MaxTime - 59

func timeOf(year, month, day, hour, minute int) int {
	return int(time.Date(year, time.Month(month), day, hour, minute, 0, 0, time.UTC).Unix())
}

func parsed(t *testing.T, text string) api.Spec {
	t.Helper()
	s, e, place := cron.Parse(text)
	if e != api.OK {
		t.Fatal(text, e, place)
	}
	return s
}

// wrongSpecs are all those that may not be by one field alone.
func wrongSpecs(t *testing.T) []api.Spec {
	var l []api.Spec
	for _, at := range []func(s *api.Spec) *uint64{
		func(s *api.Spec) *uint64 { return &s.Minutes },
		func(s *api.Spec) *uint64 { return &s.Hours },
		func(s *api.Spec) *uint64 { return &s.Days },
		func(s *api.Spec) *uint64 { return &s.Months },
		func(s *api.Spec) *uint64 { return &s.Weekdays },
	} {
		for _, set := range []uint64{0, math.MaxUint64, 1 << 63} {
			s := parsed(t, "* * * * *")
			*at(&s) = set
			l = append(l, s)
		}
	}
	return append(l, api.Spec{})
}

// Slow answers by the library's calendar, which shares nothing with the program's.

func bit(set uint64, n int) bool { return set&(1<<n) != 0 }

func slowDay(s api.Spec, u time.Time) bool {
	day, week := bit(s.Days, u.Day()), bit(s.Weekdays, int(u.Weekday()))
	if !bit(s.Months, int(u.Month())) {
		return false
	}
	if s.AnyDay || s.AnyWeek {
		return day && week
	}
	return day || week
}

// slowFrom goes from a moment on, by a minute, or by an hour or a day where these do not match; step is 1 or -1.
func slowFrom(s api.Spec, at, step int) (int, api.Errno) {
	for at >= api.MinTime && at <= api.MaxTime {
		u := time.Unix(int64(at), 0).UTC()
		unit := 60
		switch {
		case !slowDay(s, u):
			unit = 86400
		case !bit(s.Hours, u.Hour()):
			unit = 3600
		case bit(s.Minutes, u.Minute()):
			return at, api.OK
		}
		// The unit's first moment; ahead of it, or behind its end, goes on.
		first := at - ((at-api.MinTime)%unit+unit)%unit
		if step < 0 {
			at = first - 60
		} else {
			at = first + unit
		}
	}
	return 0, api.ErrNone
}

func slowFloor(t int) int { return t - ((t-api.MinTime)%60+60)%60 }

func slowBetween(s api.Spec, from, to int) []int {
	var l []int
	from, to = max(from, api.MinTime), min(to, api.MaxTime+1)
	for at := from; at < to; at++ {
		if at%60 != 0 {
			continue
		}
		u := time.Unix(int64(at), 0).UTC()
		if slowDay(s, u) && bit(s.Hours, u.Hour()) && bit(s.Minutes, u.Minute()) {
			l = append(l, at)
		}
		at += 59
	}
	return l
}

// randomSet has at least one of the values from least to most.
func randomSet(r *rand.Rand, least, most int) uint64 {
	var set uint64
	switch r.Intn(3) {
	case 0:
		set = math.MaxUint64
	case 1:
		set = r.Uint64()
	}
	set |= 1 << (least + r.Intn(most-least+1))
	return set & (1<<(most+1) - 1<<least)
}

func randomSpec(r *rand.Rand) api.Spec {
	return api.Spec{
		Minutes:  randomSet(r, 0, 59),
		Hours:    randomSet(r, 0, 23),
		Days:     randomSet(r, 1, 31),
		Months:   randomSet(r, 1, 12),
		Weekdays: randomSet(r, 0, 6),
		AnyDay:   r.Intn(2) == 0,
		AnyWeek:  r.Intn(2) == 0,
	}
}

// randomTime is any one, or one of those at the ends.
func randomTime(r *rand.Rand) int {
	switch r.Intn(8) {
	case 0:
		return api.MinTime + r.Intn(400*86400)
	case 1:
		return api.MaxTime - r.Intn(400*86400)
	case 2:
		return slowFloor(api.MinTime + r.Intn(api.MaxTime-api.MinTime+1))
	}
	return api.MinTime + r.Intn(api.MaxTime-api.MinTime+1)
}

// P3.1

func TestAfter(t *testing.T) {
	for _, c := range []struct {
		text     string
		at, want int
	}{
		{"0 0 29 2 *", timeOf(2024, 3, 1, 0, 0), timeOf(2028, 2, 29, 0, 0)},
		{"0 0 29 2 *", timeOf(2028, 2, 29, 0, 0) - 1, timeOf(2028, 2, 29, 0, 0)},
		{"0 0 29 2 *", timeOf(2028, 2, 29, 0, 0), timeOf(2032, 2, 29, 0, 0)},
		{"0 0 29 2 *", timeOf(1896, 2, 29, 0, 0), timeOf(1904, 2, 29, 0, 0)},
		{"* * * * *", 0, 60}, {"* * * * *", 59, 60}, {"* * * * *", 60, 120}, {"* * * * *", -1, 0}, {"* * * * *", -60, 0}, {"* * * * *", -61, -60},
		{"* * * * *", api.MinTime, api.MinTime + 60}, {"* * * * *", lastMoment - 1, lastMoment}, {"* * * * *", lastMoment - 60, lastMoment},
		{"*/15 9-17 * * mon-fri", timeOf(2024, 3, 1, 9, 45), timeOf(2024, 3, 1, 10, 0)},
		{"*/15 9-17 * * mon-fri", timeOf(2024, 3, 1, 17, 45), timeOf(2024, 3, 4, 9, 0)},
		{"30 12 31 * *", timeOf(2023, 1, 31, 12, 30), timeOf(2023, 3, 31, 12, 30)},
		{"30 12 31 * *", timeOf(2023, 1, 31, 12, 29), timeOf(2023, 1, 31, 12, 30)},
		{"30 12 1 1 *", timeOf(2023, 1, 1, 13, 0), timeOf(2024, 1, 1, 12, 30)},
		{"59 23 31 12 *", timeOf(2023, 12, 31, 23, 58), timeOf(2023, 12, 31, 23, 59)},
		{"0 0 13 * fri", timeOf(2024, 9, 14, 0, 0), timeOf(2024, 9, 20, 0, 0)},
		{"0 0 13 * fri", timeOf(2024, 10, 12, 0, 0), timeOf(2024, 10, 13, 0, 0)},
		{"0 0 */31 5 fri", timeOf(2024, 1, 1, 0, 0), timeOf(2026, 5, 1, 0, 0)},
		{"0 0 29 2 */6", timeOf(1880, 3, 1, 0, 0), timeOf(1896, 2, 29, 0, 0)},
		{"0 0 29 2 */6", timeOf(1896, 2, 29, 0, 0), timeOf(1908, 2, 29, 0, 0)},
	} {
		if got, e := After(parsed(t, c.text), c.at); e != api.OK || got != c.want {
			t.Error(c, got, e)
		}
	}
}

func TestBefore(t *testing.T) {
	for _, c := range []struct {
		text     string
		at, want int
	}{
		{"0 0 29 2 *", timeOf(2028, 2, 29, 0, 0), timeOf(2024, 2, 29, 0, 0)},
		{"0 0 29 2 *", timeOf(2028, 2, 29, 0, 0) + 1, timeOf(2028, 2, 29, 0, 0)},
		{"0 0 29 2 *", timeOf(1904, 2, 29, 0, 0), timeOf(1896, 2, 29, 0, 0)},
		{"* * * * *", 0, -60}, {"* * * * *", 1, 0}, {"* * * * *", 60, 0}, {"* * * * *", 61, 60}, {"* * * * *", -59, -60}, {"* * * * *", -60, -120},
		{"* * * * *", api.MaxTime, lastMoment}, {"* * * * *", lastMoment, lastMoment - 60}, {"* * * * *", api.MinTime + 1, api.MinTime}, {"* * * * *", api.MinTime + 60, api.MinTime},
		{"*/15 9-17 * * mon-fri", timeOf(2024, 3, 1, 10, 0), timeOf(2024, 3, 1, 9, 45)},
		{"*/15 9-17 * * mon-fri", timeOf(2024, 3, 4, 9, 0), timeOf(2024, 3, 1, 17, 45)},
		{"30 12 31 * *", timeOf(2023, 3, 31, 12, 30), timeOf(2023, 1, 31, 12, 30)},
		{"59 23 31 12 *", timeOf(2024, 1, 1, 0, 0), timeOf(2023, 12, 31, 23, 59)},
		{"0 0 1 1 *", timeOf(2024, 1, 1, 0, 0), timeOf(2023, 1, 1, 0, 0)},
		{"0 0 13 * fri", timeOf(2024, 10, 18, 0, 0), timeOf(2024, 10, 13, 0, 0)},
		{"0 0 29 2 */6", timeOf(1908, 2, 29, 0, 0), timeOf(1896, 2, 29, 0, 0)},
		{"0 0 29 2 */6", timeOf(1896, 2, 29, 0, 0), timeOf(1880, 2, 29, 0, 0)},
	} {
		if got, e := Before(parsed(t, c.text), c.at); e != api.OK || got != c.want {
			t.Error(c, got, e)
		}
	}
}

func TestWrongArguments(t *testing.T) {
	for name, call := range map[string]func(s api.Spec, at int) (int, api.Errno){"After": After, "Before": Before} {
		for _, s := range wrongSpecs(t) {
			for _, at := range []int{0, api.MinTime, api.MaxTime, math.MinInt, math.MaxInt} {
				if got, e := call(s, at); e != api.ErrArg || got != 0 {
					t.Error(name, s, at, got, e)
				}
			}
		}
		for _, text := range []string{"* * * * *", "0 0 30 2 *"} {
			for _, at := range []int{api.MinTime - 1, api.MaxTime + 1, api.MinTime - 60, math.MinInt, math.MaxInt} {
				if got, e := call(parsed(t, text), at); e != api.ErrArg || got != 0 {
					t.Error(name, text, at, got, e)
				}
			}
		}
	}
}

func TestNone(t *testing.T) {
	for _, c := range []struct {
		call func(s api.Spec, at int) (int, api.Errno)
		text string
		at   int
	}{
		{After, "* * * * *", lastMoment}, {After, "* * * * *", lastMoment + 1}, {After, "* * * * *", api.MaxTime},
		{Before, "* * * * *", api.MinTime},
		{After, "0 0 30 2 *", 0}, {Before, "0 0 30 2 *", 0}, {After, "0 0 31 2,4,6,9,11 *", api.MinTime}, {Before, "0 0 31 2,4,6,9,11 *", api.MaxTime},
		{After, "0 0 29 2 *", timeOf(9996, 2, 29, 0, 0)}, {Before, "0 0 29 2 *", timeOf(4, 2, 29, 0, 0)},
		{After, "58 23 31 12 *", timeOf(9999, 12, 31, 23, 58)}, {Before, "1 0 1 1 *", timeOf(1, 1, 1, 0, 1)},
	} {
		if got, e := c.call(parsed(t, c.text), c.at); e != api.ErrNone || got != 0 {
			t.Error(c.text, c.at, got, e)
		}
	}
}

func TestAllAfterAndBefore(t *testing.T) {
	r := rand.New(rand.NewSource(1))
	for range 4000 {
		s, at := randomSpec(r), randomTime(r)
		want, wantE := slowFrom(s, slowFloor(at)+60, 1)
		if got, e := After(s, at); got != want || e != wantE {
			t.Fatal("After", s, at, got, e, want, wantE)
		}
		want, wantE = slowFrom(s, slowFloor(at-1), -1)
		if got, e := Before(s, at); got != want || e != wantE {
			t.Fatal("Before", s, at, got, e, want, wantE)
		}
	}
}

// TestRareAfter is of the specs with the longest gaps: a weekday's 29ths of February.
func TestRareAfter(t *testing.T) {
	for weekday := range 7 {
		s := parsed(t, "7 5 29 2 *")
		s.Weekdays = 1 << weekday
		var all []int
		for year := 4; year <= 9999; year += 4 {
			if u := time.Date(year, 2, 29, 5, 7, 0, 0, time.UTC); u.Day() == 29 && int(u.Weekday()) == weekday {
				all = append(all, int(u.Unix()))
			}
		}
		if got := Between(s, math.MinInt, math.MaxInt, math.MaxInt); !slices.Equal(got, all) || Count(s, math.MinInt, math.MaxInt) != len(all) {
			t.Error(weekday, len(got), len(all))
		}
		for i := 1; i < len(all); i++ {
			after, e := After(s, all[i-1])
			before, e2 := Before(s, all[i])
			if e != api.OK || e2 != api.OK || after != all[i] || before != all[i-1] {
				t.Fatal(weekday, all[i-1], all[i], after, before)
			}
		}
	}
}

// P3.2

func TestBetween(t *testing.T) {
	each := parsed(t, "* * * * *")
	for _, c := range []struct {
		from, to, most int
		want           []int
	}{
		{0, 180, 10, []int{0, 60, 120}},
		{0, 181, 10, []int{0, 60, 120, 180}},
		{1, 180, 10, []int{60, 120}},
		{60, 120, 10, []int{60}}, {60, 61, 10, []int{60}}, {59, 60, 10, nil}, {60, 60, 10, nil}, {120, 60, 10, nil},
		{-61, 1, 10, []int{-60, 0}},
		{0, 180, 2, []int{0, 60}}, {0, 180, 1, []int{0}}, {0, 180, 0, nil}, {0, 180, -1, nil}, {0, 180, math.MinInt, nil}, {0, 180, math.MaxInt, []int{0, 60, 120}},
		{math.MinInt, math.MaxInt, 2, []int{api.MinTime, api.MinTime + 60}},
		{math.MinInt, api.MinTime + 1, 9, []int{api.MinTime}}, {math.MinInt, api.MinTime, 9, nil}, {math.MinInt, math.MinInt, 9, nil}, {api.MinTime - 60, api.MinTime - 1, 9, nil},
		{lastMoment, math.MaxInt, 9, []int{lastMoment}}, {lastMoment, api.MaxTime, 9, []int{lastMoment}}, {lastMoment, api.MaxTime + 1, 9, []int{lastMoment}}, {lastMoment - 60, lastMoment, 9, []int{lastMoment - 60}},
		{lastMoment + 1, math.MaxInt, 9, nil}, {api.MaxTime, math.MaxInt, 9, nil}, {api.MaxTime + 1, math.MaxInt, 9, nil}, {math.MaxInt, math.MaxInt, 9, nil}, {math.MaxInt, math.MinInt, 9, nil},
	} {
		if got := Between(each, c.from, c.to, c.most); !slices.Equal(got, c.want) {
			t.Error(c, got)
		}
		if c.most == 9 || c.most == 10 {
			if got := Count(each, c.from, c.to); got != len(c.want) {
				t.Error(c, "Count", got)
			}
		}
	}
	for _, s := range wrongSpecs(t) {
		if got := Between(s, 0, 1000000, 10); len(got) != 0 {
			t.Error(s, got)
		}
		if got := Count(s, math.MinInt, math.MaxInt); got != 0 {
			t.Error(s, got)
		}
	}
}

func TestAllBetween(t *testing.T) {
	r := rand.New(rand.NewSource(2))
	for range 2000 {
		s, from := randomSpec(r), randomTime(r)
		to := from + r.Intn(1<<(1+r.Intn(22)))
		want := slowBetween(s, from, to)
		if got := Count(s, from, to); got != len(want) {
			t.Fatal("Count", s, from, to, got, len(want))
		}
		if got := Between(s, from, to, math.MaxInt); !slices.Equal(got, want) {
			t.Fatal("Between", s, from, to, len(got), len(want))
		}
		most := r.Intn(20)
		if got := Between(s, from, to, most); !slices.Equal(got, want[:min(most, len(want))]) {
			t.Fatal("Between", s, from, to, most, got)
		}
	}
}

func TestCountOfAll(t *testing.T) {
	if got := Count(parsed(t, "* * * * *"), math.MinInt, math.MaxInt); got != (api.MaxTime+1-api.MinTime)/60 {
		t.Error("each minute", got)
	}
	if got := Count(parsed(t, "0 0 30 2 *"), math.MinInt, math.MaxInt); got != 0 {
		t.Error("none", got)
	}
	if got := Count(parsed(t, "0,30 7 29 2 *"), math.MinInt, math.MaxInt); got != 2*(9999/4-9999/100+9999/400) {
		t.Error("leap days", got)
	}
	r := rand.New(rand.NewSource(3))
	for range 20 {
		s := randomSpec(r)
		perDay, days := 0, 0
		for minute := range 1440 {
			if bit(s.Hours, minute/60) && bit(s.Minutes, minute%60) {
				perDay++
			}
		}
		for year := 1; year <= 9999; year++ {
			days += Days(s, year)
		}
		if got := Count(s, math.MinInt, math.MaxInt); got != perDay*days {
			t.Fatal(s, got, perDay, days)
		}
		a, b, c := randomTime(r), randomTime(r), randomTime(r)
		l := []int{math.MinInt, a, b, c, math.MaxInt}
		slices.Sort(l)
		sum := 0
		for i := 1; i < len(l); i++ {
			sum += Count(s, l[i-1], l[i])
			if back := Count(s, l[i], l[i-1]); back != 0 {
				t.Fatal("backwards", s, l[i], l[i-1], back)
			}
		}
		if sum != perDay*days {
			t.Fatal("in parts", s, l, sum, perDay*days)
		}
	}
}

// R3

func TestBetweenIsNew(t *testing.T) {
	s := parsed(t, "* * * * *")
	a := Between(s, 0, 600, 5)
	b := Between(s, 0, 600, 5)
	for i := range a[:cap(a)] {
		a[:cap(a)][i] = -1
	}
	if !slices.Equal(b, []int{0, 60, 120, 180, 240}) {
		t.Error(b)
	}
}

// P3.3

func TestDays(t *testing.T) {
	for _, c := range []struct {
		text       string
		year, want int
	}{
		{"* * * * *", 2023, 365}, {"* * * * *", 2024, 366}, {"* * * * *", 1900, 365}, {"* * * * *", 2000, 366}, {"* * * * *", 1, 365}, {"* * * * *", 9999, 365},
		{"0 3 * * *", 2023, 365}, {"0 0 29 2 *", 2023, 0}, {"0 0 29 2 *", 2024, 1}, {"0 0 31 * *", 2024, 7}, {"0 0 30 2 *", 2024, 0},
		{"0 0 13 * fri", 2024, 12 + 52 - 2}, {"0 0 * * fri", 2024, 52}, {"0 0 * * mon", 2024, 53}, {"0 0 1 1 mon", 2024, 5},
		{"* * * * *", 0, 0}, {"* * * * *", -1, 0}, {"* * * * *", 10000, 0}, {"* * * * *", math.MinInt, 0}, {"* * * * *", math.MaxInt, 0},
		// Twelve times these wrap round to months that there are.
		{"* * * * *", 1<<62 + 2024, 0}, {"* * * * *", -1<<62 + 2024, 0},
	} {
		if got := Days(parsed(t, c.text), c.year); got != c.want {
			t.Error(c, got)
		}
	}
	for _, s := range wrongSpecs(t) {
		if got := Days(s, 2024); got != 0 {
			t.Error(s, got)
		}
	}
}

func TestAllDays(t *testing.T) {
	r := rand.New(rand.NewSource(4))
	for range 1000 {
		s, year := randomSpec(r), 1+r.Intn(9999)
		want := 0
		for u := time.Date(year, 1, 1, 0, 0, 0, 0, time.UTC); u.Year() == year; u = u.AddDate(0, 0, 1) {
			if slowDay(s, u) {
				want++
			}
		}
		if got := Days(s, year); got != want {
			t.Fatal(s, year, got, want)
		}
	}
}

// P3.4

func TestFromEachToTheNext(t *testing.T) {
	r := rand.New(rand.NewSource(5))
	for range 300 {
		s, from := randomSpec(r), randomTime(r)
		l := Between(s, from, math.MaxInt, 50)
		for i, at := range l {
			if !cron.Matches(s, at) || at%60 != 0 {
				t.Fatal(s, at)
			}
			if i == 0 {
				continue
			}
			after, e := After(s, l[i-1])
			before, e2 := Before(s, at)
			if e != api.OK || e2 != api.OK || after != at || before != l[i-1] {
				t.Fatal(s, l[i-1], at, after, e, before, e2)
			}
		}
		if len(l) > 0 && Count(s, from, l[len(l)-1]+1) != len(l) {
			t.Fatal(s, from, len(l))
		}
	}
}
