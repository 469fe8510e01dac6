package cron

import (
	"math/rand"
	"strings"
	"testing"

	"reveille/api"
)

// P2.2

func TestPrint(t *testing.T) {
	for text, want := range map[string]string{
		"* * * * *":                       "* * * * *",
		"\t*/1  0-23 *,3 1-12 sun,*":      "* * * * *",
		"*/20 */12 * */6 *":               "0,20,40 0,12 * 1,7 *",
		"9,3,07 23,00 10,9 dec,2 sat,mon": "3,7,9 0,23 9,10 2,12 1,6",
		"0 0 */2 * fri":                   "0 0 */2 * 5",
		"0 0 2 * */2":                     "0 0 2 * */2",
		"0 0 * * 7":                       "0 0 * * 0",
		"0 0 * * 0-7":                     "0 0 * * 0,1,2,3,4,5,6",
		"0 0 1-31 * *":                    "0 0 1,2,3,4,5,6,7,8,9,10,11,12,13,14,15,16,17,18,19,20,21,22,23,24,25,26,27,28,29,30,31 * *",
		"0 0 */99 * */99":                 "0 0 */31 * */7",
		"0 0 */30 * */6":                  "0 0 */30 * */6",
		"0 0 */16 * *":                    "0 0 */16 * *",
		"0 0 */17,18 * *":                 "0 0 */17 * *",
		"0 0 */2,2 * *":                   "",
		"0 0 * * */3,1":                   "",
		"0 0 */2,* * *":                   "0 0 * * *",
		"59 23 31 12 6":                   "59 23 31 12 6",
	} {
		if got := Print(parsed(t, text)); got != want {
			t.Errorf("%q: %q, not %q", text, got, want)
		}
	}
}

func TestPrintNothing(t *testing.T) {
	for name, change := range map[string]func(s *api.Spec){
		"no minute":      func(s *api.Spec) { s.Minutes = 0 },
		"no hour":        func(s *api.Spec) { s.Hours = 0 },
		"no day":         func(s *api.Spec) { s.Days = 0 },
		"no month":       func(s *api.Spec) { s.Months = 0 },
		"no weekday":     func(s *api.Spec) { s.Weekdays = 0 },
		"minute 60":      func(s *api.Spec) { s.Minutes |= 1 << 60 },
		"hour 24":        func(s *api.Spec) { s.Hours |= 1 << 24 },
		"day 0":          func(s *api.Spec) { s.Days |= 1 },
		"day 32":         func(s *api.Spec) { s.Days |= 1 << 32 },
		"month 0":        func(s *api.Spec) { s.Months |= 1 },
		"month 13":       func(s *api.Spec) { s.Months |= 1 << 13 },
		"weekday 7":      func(s *api.Spec) { s.Weekdays |= 1 << 7 },
		"day 2 by star":  func(s *api.Spec) { s.Days = 1 << 2 },
		"all but 31":     func(s *api.Spec) { s.Days = allDays &^ (1 << 31) },
		"friday by star": func(s *api.Spec) { s.Weekdays = 1 << 5 },
		"all but sunday": func(s *api.Spec) { s.Weekdays = allWeekdays &^ 1 },
	} {
		s := always()
		change(&s)
		if got := Print(s); got != "" {
			t.Error(name, got)
		}
	}
}

// A text of many values may be longer than one that is parsed: the document names no end for it.
func TestPrintLong(t *testing.T) {
	s := always()
	s.Minutes, s.Hours, s.AnyDay = allMinutes&^1, allHours&^1, false
	text := Print(s)
	if len(text) <= api.MaxSpec || !strings.HasPrefix(text, "1,2,3,") || !strings.HasSuffix(text, ",31 * *") {
		t.Error(text)
	}
	if _, e, _ := Parse(text); e != api.ErrLong {
		t.Error(e)
	}
}

// P2.4

func TestPrintedIsParsed(t *testing.T) {
	r := rand.New(rand.NewSource(6))
	all := grammars()
	printed := 0
	for range 30000 {
		s, e, _ := Parse(randomText(r, all))
		text := Print(s)
		if e != api.OK {
			if text != "" {
				t.Fatal("of no spec", text)
			}
			continue
		}
		if text == "" || len(text) > api.MaxSpec {
			continue
		}
		printed++
		if back, e, place := Parse(text); e != api.OK || place != 0 || back != s {
			t.Fatal(s, text, back, e, place)
		}
	}
	if printed < 1000 {
		t.Error("too few", printed)
	}
}

// TestPrintSteps: each step is printed as the least one of the same values.
func TestPrintSteps(t *testing.T) {
	for _, field := range []int{2, 4} {
		most := []int{0, 0, 30, 0, 6}[field]
		for n := 1; n <= 99; n++ {
			parts := strings.Fields("0 0 * * *")
			parts[field] = "*/" + decimal(n)
			s := parsed(t, strings.Join(parts, " "))
			parts[field] = "*/" + decimal(min(n, most+1))
			if n == 1 {
				parts[field] = "*"
			}
			if got := Print(s); got != strings.Join(parts, " ") {
				t.Error(n, got, parts)
			}
		}
	}
}

func decimal(n int) string {
	if n < 10 {
		return string(rune('0' + n))
	}
	return string(rune('0'+n/10)) + string(rune('0'+n%10))
}
