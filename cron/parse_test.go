package cron

import (
	"math/rand"
	"regexp"
	"strconv"
	"strings"
	"testing"

	"reveille/api"
)

// P2.1

func TestParseValues(t *testing.T) {
	for _, c := range []struct {
		text string
		want func(s *api.Spec)
	}{
		{"* * * * *", func(s *api.Spec) {}},
		{" \t *\t* * \t * * \t", func(s *api.Spec) {}},
		{"0 * * * *", func(s *api.Spec) { s.Minutes = 1 }},
		{"59 * * * *", func(s *api.Spec) { s.Minutes = 1 << 59 }},
		{"00,05,5 * * * *", func(s *api.Spec) { s.Minutes = 1 | 1<<5 }},
		{"05,10-20/5 * * * *", func(s *api.Spec) { s.Minutes = 1<<5 | 1<<10 | 1<<15 | 1<<20 }},
		{"*/15 * * * *", func(s *api.Spec) { s.Minutes = 1 | 1<<15 | 1<<30 | 1<<45 }},
		{"*/99 * * * *", func(s *api.Spec) { s.Minutes = 1 }},
		{"50/4 * * * *", func(s *api.Spec) { s.Minutes = 1<<50 | 1<<54 | 1<<58 }},
		{"50-57/4 * * * *", func(s *api.Spec) { s.Minutes = 1<<50 | 1<<54 }},
		{"7-7/3,30,20-21 * * * *", func(s *api.Spec) { s.Minutes = 1<<7 | 1<<30 | 1<<20 | 1<<21 }},
		{"* 23/1 * * *", func(s *api.Spec) { s.Hours = 1 << 23 }},
		{"* 0-23 * * *", func(s *api.Spec) {}},
		{"* * 31 * *", func(s *api.Spec) { s.Days, s.AnyDay = 1<<31, false }},
		{"* * 1-31 * *", func(s *api.Spec) { s.AnyDay = false }},
		{"* * */10 * *", func(s *api.Spec) { s.Days = 1<<1 | 1<<11 | 1<<21 | 1<<31 }},
		{"* * 1,*/30 * *", func(s *api.Spec) { s.Days = 1<<1 | 1<<31 }},
		{"* * */30,2 * *", func(s *api.Spec) { s.Days = 1<<1 | 1<<2 | 1<<31 }},
		{"* * 30/1 * *", func(s *api.Spec) { s.Days, s.AnyDay = 1<<30|1<<31, false }},
		{"* * * jan *", func(s *api.Spec) { s.Months = 1 << 1 }},
		{"* * * jan,feb,mar,apr,may,jun,jul,aug,sep,oct,nov,dec *", func(s *api.Spec) {}},
		{"* * * oct-12,02 *", func(s *api.Spec) { s.Months = 1<<10 | 1<<11 | 1<<12 | 1<<2 }},
		{"* * * sep/2 *", func(s *api.Spec) { s.Months = 1<<9 | 1<<11 }},
		{"* * * * sun", func(s *api.Spec) { s.Weekdays, s.AnyWeek = 1, false }},
		{"* * * * sun,mon,tue,wed,thu,fri,sat", func(s *api.Spec) { s.AnyWeek = false }},
		{"* * * * 7", func(s *api.Spec) { s.Weekdays, s.AnyWeek = 1, false }},
		{"* * * * 07", func(s *api.Spec) { s.Weekdays, s.AnyWeek = 1, false }},
		{"* * * * 5-7", func(s *api.Spec) { s.Weekdays, s.AnyWeek = 1|1<<5|1<<6, false }},
		{"* * * * 0-7", func(s *api.Spec) { s.AnyWeek = false }},
		{"* * * * fri-7", func(s *api.Spec) { s.Weekdays, s.AnyWeek = 1|1<<5|1<<6, false }},
		{"* * * * 1-7/3", func(s *api.Spec) { s.Weekdays, s.AnyWeek = 1|1<<1|1<<4, false }},
		{"* * * * 7/2", func(s *api.Spec) { s.Weekdays, s.AnyWeek = 1, false }},
		{"* * * * 5/1", func(s *api.Spec) { s.Weekdays, s.AnyWeek = 1<<5|1<<6, false }},
		{"* * * * 3/4", func(s *api.Spec) { s.Weekdays, s.AnyWeek = 1<<3, false }},
		{"* * * * */7", func(s *api.Spec) { s.Weekdays = 1 }},
		{"* * * * */4", func(s *api.Spec) { s.Weekdays = 1 | 1<<4 }},
	} {
		want := always()
		c.want(&want)
		if got, e, place := Parse(c.text); e != api.OK || place != 0 || got != want {
			t.Error(c.text, got, e, place)
		}
	}
}

func TestParseFaults(t *testing.T) {
	for _, c := range []struct {
		text  string
		e     api.Errno
		place int
	}{
		{"", api.ErrField, 0},
		{" \t", api.ErrField, 0},
		{"*", api.ErrField, 1},
		{"* * * *", api.ErrField, 4},
		{"* * * * ", api.ErrField, 4},
		{"* * * * * *", api.ErrField, 5},
		{"* * * * * x y z", api.ErrField, 5},
		{"* * * * *\n", api.ErrField, 4},
		{"*\n* * * * *", api.ErrField, 0},
		{"*,* * * * *,", api.ErrField, 4},
		{", * * * *", api.ErrField, 0},
		{"1,,2 * * * *", api.ErrField, 0},
		{",1 * * * *", api.ErrField, 0},
		{"x * * * *", api.ErrField, 0},
		{"** * * * *", api.ErrField, 0},
		{"*-5 * * * *", api.ErrField, 0},
		{"5-* * * * *", api.ErrField, 0},
		{"-5 * * * *", api.ErrField, 0},
		{"5- * * * *", api.ErrField, 0},
		{"- * * * *", api.ErrField, 0},
		{"1-2-3 * * * *", api.ErrField, 0},
		{"+5 * * * *", api.ErrField, 0},
		{"005 * * * *", api.ErrField, 0},
		{"100 * * * *", api.ErrField, 0},
		{"1a * * * *", api.ErrField, 0},
		{"1: * * * *", api.ErrField, 0},
		{"1/ * * * *", api.ErrField, 0},
		{"/2 * * * *", api.ErrField, 0},
		{"/ * * * *", api.ErrField, 0},
		{"*/1/2 * * * *", api.ErrField, 0},
		{"*/100 * * * *", api.ErrField, 0},
		{"*/05 * * * *", api.ErrField, 0},
		{"*/00 * * * *", api.ErrField, 0},
		{"*/-1 * * * *", api.ErrField, 0},
		{"*/x * * * *", api.ErrField, 0},
		{"*/* * * * *", api.ErrField, 0},
		{"jan * * * *", api.ErrField, 0},
		{"* mon * * *", api.ErrField, 1},
		{"* * jan * *", api.ErrField, 2},
		{"* * * mon *", api.ErrField, 3},
		{"* * * JAN *", api.ErrField, 3},
		{"* * * janu *", api.ErrField, 3},
		{"* * * ja *", api.ErrField, 3},
		{"* * * anf *", api.ErrField, 3},
		{"* * * */feb *", api.ErrField, 3},
		{"* * * * Mon", api.ErrField, 4},
		{"* * * * jan", api.ErrField, 4},
		{"* * * * 001", api.ErrField, 4},

		{"60 * * * *", api.ErrRange, 0},
		{"99 * * * *", api.ErrRange, 0},
		{"* 24 * * *", api.ErrRange, 1},
		{"* * 0 * *", api.ErrRange, 2},
		{"* * 00 * *", api.ErrRange, 2},
		{"* * 32 * *", api.ErrRange, 2},
		{"* * * 0 *", api.ErrRange, 3},
		{"* * * 13 *", api.ErrRange, 3},
		{"* * * * 8", api.ErrRange, 4},
		{"* * * * 0-8", api.ErrRange, 4},
		{"* * 0-5 * *", api.ErrRange, 2},
		{"7-5 * * * *", api.ErrRange, 0},
		{"* * * dec-jan *", api.ErrRange, 3},
		{"* * * * fri-sun", api.ErrRange, 4},
		{"* * * * 7-1", api.ErrRange, 4},
		{"*/0 * * * *", api.ErrRange, 0},
		{"1-5/0 * * * *", api.ErrRange, 0},
		{"60/2 * * * *", api.ErrRange, 0},
		{"* * * * 8/2", api.ErrRange, 4},

		// Within an item the form goes ahead; else whatever stands first.
		{"60/x * * * *", api.ErrField, 0},
		{"60-x * * * *", api.ErrField, 0},
		{"x/0 * * * *", api.ErrField, 0},
		{"60,x * * * *", api.ErrRange, 0},
		{"x,60 * * * *", api.ErrField, 0},
		{"5,60 x * * *", api.ErrRange, 0},
		{"* x 0 * *", api.ErrField, 1},
		{"60", api.ErrRange, 0},
		{"* 24 *", api.ErrRange, 1},
		{"* * * * 8 *", api.ErrRange, 4},
		{"60 * * * * *", api.ErrRange, 0},
	} {
		if s, e, place := Parse(c.text); e != c.e || place != c.place || s != (api.Spec{}) {
			t.Errorf("%q: %v %v %v", c.text, s, e, place)
		}
	}
}

func TestParseLong(t *testing.T) {
	text := "* * * * *"
	full := text + strings.Repeat(" ", api.MaxSpec-len(text))
	if s, e, place := Parse(full); s != always() || e != api.OK || place != 0 {
		t.Error("as long as may be", e, place)
	}
	for _, long := range []string{full + " ", "* x" + full, strings.Repeat("1,", 1000)} {
		if s, e, place := Parse(long); s != (api.Spec{}) || e != api.ErrLong || place != 0 {
			t.Error("too long", len(long), e, place)
		}
	}
}

// A grammar is how the test reads an item: by a pattern, in place of the program's steps.
type grammar struct {
	pattern     *regexp.Regexp
	names       []string
	first       int
	least, most int
}

func grammars() []grammar {
	make := func(least, most, first int, names ...string) grammar {
		n := "(" + strings.Join(append(names, "[0-9]{1,2}"), "|") + ")"
		return grammar{regexp.MustCompile(`^(\*|` + n + `(-` + n + `)?)(/(0|[1-9][0-9]?))?$`), names, first, least, most}
	}
	return []grammar{
		make(0, 59, 0), make(0, 23, 0), make(1, 31, 0),
		make(1, 12, 1, "jan", "feb", "mar", "apr", "may", "jun", "jul", "aug", "sep", "oct", "nov", "dec"),
		make(0, 7, 0, "sun", "mon", "tue", "wed", "thu", "fri", "sat"),
	}
}

func (g grammar) number(text string) int {
	for i, name := range g.names {
		if name == text {
			return i + g.first
		}
	}
	n, _ := strconv.Atoi(text)
	return n
}

func (g grammar) item(text string, place int) (bits uint64, star bool, e api.Errno) {
	m := g.pattern.FindStringSubmatch(text)
	if m == nil {
		return 0, false, api.ErrField
	}
	greatest := g.most
	if place == 4 {
		greatest = 6
	}
	low, high, step := g.least, greatest, 1
	if star = m[1] == "*"; !star {
		low = g.number(m[2])
		switch {
		case m[3] != "":
			high = g.number(m[4])
		case m[5] == "" || low > greatest:
			high = low
		}
	}
	if m[5] != "" {
		step, _ = strconv.Atoi(m[6])
	}
	if low < g.least || low > g.most || high > g.most || low > high || step == 0 {
		return 0, false, api.ErrRange
	}
	for v := low; v <= high; v += step {
		if place == 4 {
			bits |= 1 << (v % 7)
		} else {
			bits |= 1 << v
		}
	}
	return bits, star, api.OK
}

func slowParse(text string, all []grammar) (api.Spec, api.Errno, int) {
	parts := strings.FieldsFunc(text, func(r rune) bool { return r == ' ' || r == '\t' })
	var bits [5]uint64
	var stars [5]bool
	for place, part := range parts[:min(5, len(parts))] {
		for _, one := range strings.Split(part, ",") {
			b, star, e := all[place].item(one, place)
			if e != api.OK {
				return api.Spec{}, e, place
			}
			bits[place] |= b
			stars[place] = stars[place] || star
		}
	}
	if len(parts) != 5 {
		return api.Spec{}, api.ErrField, min(5, len(parts))
	}
	return api.Spec{Minutes: bits[0], Hours: bits[1], Days: bits[2], Months: bits[3], Weekdays: bits[4], AnyDay: stars[2], AnyWeek: stars[4]}, api.OK, 0
}

func randomNumber(r *rand.Rand, g grammar) string {
	if len(g.names) > 0 && r.Intn(3) == 0 {
		return g.names[r.Intn(len(g.names))]
	}
	n := g.least + r.Intn(g.most-g.least+1)
	if r.Intn(60) == 0 {
		n = r.Intn(100)
	}
	if n < 10 && r.Intn(4) == 0 {
		return "0" + strconv.Itoa(n)
	}
	return strconv.Itoa(n)
}

func randomItem(r *rand.Rand, g grammar) string {
	text := "*"
	switch r.Intn(3) {
	case 0:
		text = randomNumber(r, g)
	case 1:
		a, b := randomNumber(r, g), randomNumber(r, g)
		if g.number(a) > g.number(b) && r.Intn(20) != 0 {
			a, b = b, a
		}
		text = a + "-" + b
	}
	if r.Intn(3) == 0 {
		text += "/" + strconv.Itoa(1+r.Intn(20))
	}
	return text
}

func randomText(r *rand.Rand, all []grammar) string {
	text := strings.Repeat(" ", r.Intn(2))
	for _, g := range all {
		text += randomItem(r, g)
		for r.Intn(3) == 0 {
			text += "," + randomItem(r, g)
		}
		text += []string{" ", "\t", "  ", " \t "}[r.Intn(4)]
	}
	if r.Intn(3) == 0 {
		at, with := r.Intn(len(text)), " \t,-/*0123456789abcjnsu\n\xff"
		c := string(with[r.Intn(len(with))])
		text = text[:at] + c + text[at+r.Intn(2):]
	}
	return text
}

// TestParseAll holds random texts, right and spoilt, against the patterns.
func TestParseAll(t *testing.T) {
	r := rand.New(rand.NewSource(3))
	all := grammars()
	told := map[api.Errno]int{}
	for range 60000 {
		text := randomText(r, all)
		s, e, place := Parse(text)
		want, wantE, wantPlace := slowParse(text, all)
		if s != want || e != wantE || place != wantPlace {
			t.Fatalf("%q: %v %v %v, not %v %v %v", text, s, e, place, want, wantE, wantPlace)
		}
		told[e]++
	}
	if told[api.OK] < 1000 || told[api.ErrField] < 1000 || told[api.ErrRange] < 1000 {
		t.Error("too few of a kind", told)
	}
}

func TestParseIsTotal(t *testing.T) {
	r := rand.New(rand.NewSource(4))
	all := grammars()
	for range 20000 {
		b := make([]byte, r.Intn(40))
		for i := range b {
			b[i] = byte(r.Intn(256))
			if r.Intn(2) == 0 {
				b[i] = "* */-,019"[r.Intn(9)]
			}
		}
		s, e, place := Parse(string(b))
		if want, wantE, wantPlace := slowParse(string(b), all); s != want || e != wantE || place != wantPlace {
			t.Fatalf("%q: %v %v %v", b, s, e, place)
		}
	}
}

// P2.4

func TestOrderAndBlanks(t *testing.T) {
	r := rand.New(rand.NewSource(5))
	all := grammars()
	for range 5000 {
		text := randomText(r, all)
		s, e, _ := Parse(text)
		if e != api.OK {
			continue
		}
		parts := strings.Fields(text)
		for i, part := range parts {
			items := strings.Split(part, ",")
			r.Shuffle(len(items), func(a, b int) { items[a], items[b] = items[b], items[a] })
			parts[i] = strings.Join(items, ",")
		}
		other := "\t " + strings.Join(parts, " \t ") + " "
		if got, e, _ := Parse(other); e != api.OK || got != s {
			t.Fatalf("%q, %q: %v, %v, %v", text, other, s, got, e)
		}
	}
}
