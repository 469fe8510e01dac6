package job

import (
	"math/rand"
	"slices"
	"strconv"
	"strings"
	"testing"

	"reveille/api"
	"reveille/cron"
	"reveille/label"
)

func parsed(t *testing.T, line string) api.Job {
	t.Helper()
	j, e, place := Parse(line)
	if e != api.OK || place != 0 {
		t.Errorf("%q: %d %d", line, e, place)
	}
	return j
}

// P14.1: Parse

func TestParse(t *testing.T) {
	for _, one := range []struct {
		line string
		do   func(j *api.Job)
	}{
		{"a:* * * * *", func(j *api.Job) {}},
		{"  a  :  *  *  * * *  ", func(j *api.Job) {}},
		{"a:\t* * * *\t*\t", func(j *api.Job) {}},
		{"a-b/c.d_E:*/5 1-3 * jan sun,1", func(j *api.Job) { j.Name, j.Spec = "a-b/c.d_E", spec(t, "*/5 1-3 * 1 0,1") }},
		{strings.Repeat("n", 32) + ":* * * * *", func(j *api.Job) { j.Name = strings.Repeat("n", 32) }},
		{"a:* * * * *;select=os=linux", func(j *api.Job) { j.Select = selector(t, "os=linux") }},
		{"a:* * * * *;select=os==linux, zone in (a,b) ,!gpu,x!=1", func(j *api.Job) { j.Select = selector(t, "os=linux,zone in (a,b),!gpu,x!=1") }},
		{"a:* * * * *;select=os", func(j *api.Job) { j.Select = selector(t, "os") }},
		{"a:* * * * *;select=os=", func(j *api.Job) { j.Select = selector(t, "os=") }},
		{"a:* * * * *;select=", func(j *api.Job) {}},
		{"a:* * * * *; select =  ", func(j *api.Job) {}},
		{"a:* * * * *;jitter=0", func(j *api.Job) {}},
		{"a:* * * * *;jitter=3599", func(j *api.Job) { j.Jitter = 3599 }},
		{"a:* * * * *  ;  jitter  =  10  ", func(j *api.Job) { j.Jitter = 10 }},
		{"a:* * * * *;jitter=86400;deadline=604800", func(j *api.Job) { j.Jitter, j.Deadline = 86400, 604800 }},
		{"a:* * * * *;wave=65536;parallel=65536", func(j *api.Job) { j.Wave, j.Parallel = 65536, 65536 }},
		{"a:* * * * *;parallel=0;wave=1", func(j *api.Job) { j.Wave = 1 }},
		{"a:* * * * *;fail=0", func(j *api.Job) { j.Fail = 0 }},
		{"a:* * * * *;fail=100", func(j *api.Job) {}},
		{"a:* * * * *;deadline=60", func(j *api.Job) { j.Deadline = 60 }},
		{"a:* * * * *;misfire=skip", func(j *api.Job) {}},
		{"a:* * * * *;misfire=once", func(j *api.Job) { j.Misfire = api.MissOnce }},
		{"a:* * * * *;misfire=all 1", func(j *api.Job) { j.Misfire, j.Bound = api.MissAll, 1 }},
		{"a:* * * * *; misfire = all   100 ", func(j *api.Job) { j.Misfire, j.Bound = api.MissAll, 100 }},
	} {
		want := usual(t)
		one.do(&want)
		if got := parsed(t, one.line); !Same(got, want) {
			t.Errorf("%q: %v, not %v", one.line, got, want)
		}
	}
}

func TestParseFaults(t *testing.T) {
	const head = "a: * * * * *"
	for _, one := range []struct {
		line  string
		place int
	}{
		{"", 0}, {" ", 0}, {"a", 0}, {"a * * * * *", 0}, {":", 0}, {": * * * * *", 0}, {" : * * * * *", 0},
		{"a b: * * * * *", 0}, {"\ta: * * * * *", 0}, {"a\t: * * * * *", 0}, {"a:", 0}, {"a: ", 0}, {"a: * * * *", 0},
		{"a: * * * * * *", 0}, {"a: 60 * * * *", 0}, {"a:: * * * * *", 0}, {"a: * * * * *:", 0}, {"a: * * * * *,", 0},
		{strings.Repeat("n", 33) + ": * * * * *", 0}, {"a=1; a: * * * * *", 0}, {"; a: * * * * *", 0},
		{head + ";", 1}, {head + "; ", 1}, {head + ";;", 1}, {head + ";jitter=1;", 2}, {head + "; jitter", 1}, {head + "; jitter 1", 1},
		{head + "; =1", 1}, {head + "; Jitter=1", 1}, {head + "; name=b", 1}, {head + "; bound=1", 1}, {head + "; jit ter=1", 1},
		{head + "; \tjitter=1", 1}, {head + "; jitter\t=1", 1},
		{head + "; jitter=", 1}, {head + "; jitter= ", 1}, {head + "; jitter=-1", 1}, {head + "; jitter=+1", 1}, {head + "; jitter=01", 1},
		{head + "; jitter=00", 1}, {head + "; jitter=1 0", 1}, {head + "; jitter=1\t", 1}, {head + "; jitter=1x", 1}, {head + "; jitter=x", 1},
		{head + "; jitter==1", 1}, {head + "; jitter=1=1", 1}, {head + "; jitter=1:", 1}, {head + "; jitter=1/", 1}, {head + "; jitter=0x1", 1}, {head + "; jitter=1_0", 1},
		{head + "; jitter=1000000000", 1}, {head + "; wave=0000000001", 1}, {head + "; fail=1.", 1}, {head + "; parallel=²", 1}, {head + "; deadline=all", 1},
		{head + "; select=a b", 1}, {head + "; select=a,", 1}, {head + "; select=a in (", 1}, {head + "; select=\ta", 1}, {head + "; select==a", 1},
		{head + "; misfire=", 1}, {head + "; misfire=Skip", 1}, {head + "; misfire=skip 1", 1}, {head + "; misfire=once 1", 1}, {head + "; misfire=all", 1},
		{head + "; misfire=all ", 1}, {head + "; misfire=all3", 1}, {head + "; misfire=all\t3", 1}, {head + "; misfire=all 03", 1}, {head + "; misfire=all 3 4", 1},
		{head + "; misfire=all -1", 1}, {head + "; misfire=all 1000000000", 1}, {head + "; misfire=all x", 1}, {head + "; misfire= 3", 1}, {head + "; misfire=1", 1},
		{head + "; jitter=1; jitter=1", 2}, {head + "; select=; select=", 2}, {head + "; wave=1; fail=1; wave =2", 3}, {head + "; misfire=skip; misfire=once", 2},
		// The first part that is at fault tells.
		{"a b: * * * * *; jitter=x", 0}, {head + "; jitter=x; jitter=y", 1}, {head + "; jitter=99999; wave=x", 2},
		// All is right but the job: the place is how many parts there are.
		{head + "; jitter=3600", 2}, {head + "; jitter=86401; deadline=604800", 3}, {head + "; jitter=999999999", 2}, {head + "; wave=65537", 2},
		{head + "; wave=1; parallel=65537", 3}, {head + "; fail=101", 2}, {head + "; deadline=59", 2}, {head + "; deadline=604801; wave=1; fail=1", 4},
		{head + "; misfire=all 0", 2}, {head + "; misfire=all 101", 2}, {"a: 1-59 1-23 1-30 1-11 1-6", 1}, {"a: * * */2,2 * *", 1}, {"a: * * */2,2 * *; wave=1", 2},
	} {
		if j, e, place := Parse(one.line); !Same(j, api.Job{}) || e != api.ErrJob || place != one.place {
			t.Errorf("%q: %v %d %d, not %d", one.line, j, e, place, one.place)
		}
	}
}

func TestParseLong(t *testing.T) {
	line := "a: * * * * *; wave=7"
	blanks := strings.Repeat(" ", 1024-len(line))
	want := usual(t)
	want.Wave = 7
	for _, full := range []string{line + blanks, blanks + line, strings.Replace(line, ":", ":"+blanks, 1), strings.Replace(line, "=", blanks+"=", 1), strings.Replace(line, ";", blanks+";", 1), strings.Replace(line, "7", blanks+"7", 1)} {
		if got := parsed(t, full); !Same(got, want) {
			t.Error(got)
		}
		for _, long := range []string{full + " ", " " + full, full + ";", full + strings.Repeat("x", 5000)} {
			if j, e, place := Parse(long); !Same(j, api.Job{}) || e != api.ErrLong || place != 0 {
				t.Error(j, e, place)
			}
		}
	}
	if j, e, place := Parse(strings.Repeat(";", 1024)); !Same(j, api.Job{}) || e != api.ErrJob || place != 0 {
		t.Error(j, e, place)
	}
}

func TestParseGreatParts(t *testing.T) {
	text := cron.Print(specOf(t, 256))
	for _, line := range []string{"a:" + text, "a:  " + text + "  ;wave=0"} {
		if got := parsed(t, line); got.Spec != specOf(t, 256) {
			t.Error(got)
		}
	}
	if _, e, place := Parse("a:" + cron.Print(specOf(t, 257))); e != api.ErrJob || place != 0 {
		t.Error(e, place)
	}
	text = label.Print(selectOf(t, 512))
	if got := parsed(t, "a:* * * * *;select=  "+text+"  "); !slices.EqualFunc(got.Select, selectOf(t, 512), sameClause) {
		t.Error(got)
	}
	if _, e, place := Parse("a:* * * * *;select=" + label.Print(selectOf(t, 513))); e != api.ErrJob || place != 1 {
		t.Error(e, place)
	}
	// A selector of 512 bytes whose own text has more: it has a blank ahead of its brackets.
	tight := strings.Replace(label.Print(selectOf(t, 502)), ",", ",k in(a,b),", 1)
	if c := selector(t, tight); len(tight) != 512 || len(label.Print(c)) != 513 {
		t.Error(len(tight), len(label.Print(c)))
	}
	if _, e, place := Parse("a:* * * * *;select=" + tight); e != api.ErrJob || place != 2 {
		t.Error(e, place)
	}
}

// P14.2

func TestPrint(t *testing.T) {
	for _, one := range []struct {
		want string
		do   func(j *api.Job)
	}{
		{"a: * * * * *", func(j *api.Job) {}},
		{"a: * * * * *", func(j *api.Job) { j.Select = []api.Clause{} }},
		{"b: 0,15,30,45 9,10 * * 1", func(j *api.Job) { j.Name, j.Spec = "b", spec(t, "*/15 9-10 * * mon") }},
		{"a: * * * * *; select=os=linux,!gpu", func(j *api.Job) { j.Select = selector(t, " os == linux , ! gpu ") }},
		{"a: * * * * *; select=os in (a,b)", func(j *api.Job) { j.Select = selector(t, "os in ( a , b )") }},
		{"a: * * * * *; jitter=1", func(j *api.Job) { j.Jitter = 1 }},
		{"a: * * * * *; wave=65536", func(j *api.Job) { j.Wave = 65536 }},
		{"a: * * * * *; fail=0", func(j *api.Job) { j.Fail = 0 }},
		{"a: * * * * *; parallel=7", func(j *api.Job) { j.Parallel = 7 }},
		{"a: * * * * *; deadline=60", func(j *api.Job) { j.Deadline = 60 }},
		{"a: * * * * *; misfire=once", func(j *api.Job) { j.Misfire = api.MissOnce }},
		{"a: * * * * *; misfire=all 3", func(j *api.Job) { j.Misfire, j.Bound = api.MissAll, 3 }},
		{"backup: 0 3 * * *; select=os=linux,zone in (a,b),!gpu; jitter=600; wave=10; fail=20; parallel=3; deadline=7200; misfire=all 2", func(j *api.Job) { *j = whole(t) }},
	} {
		j := usual(t)
		one.do(&j)
		if got := Print(j); got != one.want {
			t.Errorf("%q, not %q", got, one.want)
		}
	}
}

// greatest is a job with the longest line.
func greatest(t *testing.T) api.Job {
	return api.Job{
		Name: strings.Repeat("n", 32), Spec: specOf(t, 256), Select: selectOf(t, 512),
		Jitter: 86400, Wave: 65536, Fail: 99, Parallel: 65536, Deadline: 604800, Misfire: api.MissAll, Bound: 100,
	}
}

// P14.4

func TestPrintedIsParsed(t *testing.T) {
	for _, j := range []api.Job{usual(t), whole(t), greatest(t)} {
		if line := Print(j); line == "" || len(line) > 1024 || !Same(parsed(t, line), j) {
			t.Errorf("%q", line)
		}
		if got := putAndGot(t, j); !Same(got, j) {
			t.Error(got)
		}
	}
}

// The slow parser goes by the chapter's words: it looks at a line from the left, byte by byte.

type slowParser struct {
	specs, selects []string // those that it knows
	t              *testing.T
}

func stripped(s string) string {
	for s != "" && s[0] == ' ' {
		s = s[1:]
	}
	for s != "" && s[len(s)-1] == ' ' {
		s = s[:len(s)-1]
	}
	return s
}

// cutAt is what stands ahead of the first such byte and behind it.
func cutAt(s string, at byte) (string, string, bool) {
	for i := range len(s) {
		if s[i] == at {
			return s[:i], s[i+1:], true
		}
	}
	return s, "", false
}

func slowNumber(s string) (int, bool) {
	n, e := strconv.Atoi(s)
	return n, e == nil && n >= 0 && n <= 999999999 && strconv.Itoa(n) == s
}

// set does what a setting says, and tells whether it is one.
func (p slowParser) set(j *api.Job, key, value string) bool {
	numbers := map[string]*int{"jitter": &j.Jitter, "wave": &j.Wave, "fail": &j.Fail, "parallel": &j.Parallel, "deadline": &j.Deadline}
	if n := numbers[key]; n != nil {
		var ok bool
		*n, ok = slowNumber(value)
		return ok
	}
	switch key {
	case "select":
		if value != "" && !slices.Contains(p.selects, value) {
			return false
		}
		j.Select = selector(p.t, value)
		return true
	case "misfire":
		kinds := map[string]int{"skip": 1, "once": 2}
		if j.Misfire = kinds[value]; j.Misfire > 0 {
			return true
		}
		if len(value) < 5 || value[:4] != "all " {
			return false
		}
		var ok bool
		j.Misfire = 3
		j.Bound, ok = slowNumber(stripped(value[4:]))
		return ok
	}
	return false
}

func (p slowParser) parse(line string) (api.Job, api.Errno, int) {
	j := api.Job{Fail: 100, Deadline: 3600, Misfire: 1}
	var keys []string
	for place := 0; ; place++ {
		part, left, more := cutAt(line, ';')
		line = left
		if place == 0 {
			name, text, ok := cutAt(part, ':')
			j.Name = stripped(name)
			if !ok || !label.Word(j.Name) || !slices.Contains(p.specs, stripped(text)) {
				return api.Job{}, api.ErrJob, 0
			}
			j.Spec = spec(p.t, text)
		} else {
			key, value, ok := cutAt(part, '=')
			key = stripped(key)
			if !ok || slices.Contains(keys, key) || !p.set(&j, key, stripped(value)) {
				return api.Job{}, api.ErrJob, place
			}
			keys = append(keys, key)
		}
		if !more {
			if !slowMay(j) {
				return api.Job{}, api.ErrJob, place + 1
			}
			return j, api.OK, 0
		}
	}
}

// slowMay asks of numbers alone: the specs and selectors that the slow parser knows may all be.
func slowMay(j api.Job) bool {
	is := j.Jitter <= 86400 && j.Wave <= 65536 && j.Parallel <= 65536 && j.Fail <= 100
	is = is && j.Deadline >= 60 && j.Deadline <= 604800 && j.Deadline > j.Jitter
	return is && (j.Misfire == 3 && j.Bound >= 1 && j.Bound <= 100 || j.Misfire != 3)
}

func pick[T any](r *rand.Rand, l []T) T { return l[r.Intn(len(l))] }

// randomLine is a line that may often be, or is a little wrong.
func randomLine(r *rand.Rand, p slowParser) string {
	blanks := func() string { return strings.Repeat(" ", max(0, r.Intn(6)-3)) }
	numbers := []string{"0", "1", "9", "10", "60", "100", "101", "3600", "86400", "86401", "604800", "65536", "999999999", "1000000000", "01", "", "x", "-1"}
	number := func() string { return numbers[r.Intn(r.Intn(len(numbers))+1)] }
	keys := []string{"select", "jitter", "wave", "fail", "parallel", "deadline", "misfire", "misfires", ""}
	r.Shuffle(7, func(i, j int) { keys[i], keys[j] = keys[j], keys[i] })
	line := blanks() + pick(r, []string{"a", "job-1", "x/y"}) + blanks() + ":" + blanks() + pick(r, p.specs) + blanks()
	for i := range r.Intn(6) {
		key := keys[i]
		if r.Intn(25) == 0 {
			key = pick(r, keys)
		}
		value := number()
		switch {
		case key == "select":
			value = pick(r, p.selects)
		case key == "misfire" && r.Intn(10) > 0:
			value = pick(r, []string{"skip", "once", "all" + blanks() + " " + number(), "all " + number()})
		}
		line += ";" + blanks() + key + blanks() + "=" + blanks() + value + blanks()
	}
	for range max(0, r.Intn(8)-6) {
		place := r.Intn(len(line))
		line = line[:place] + pick(r, []string{"", ";", "=", ":", " ", "1", "a"}) + line[place+r.Intn(2):]
	}
	return line
}

func TestAsTheSlowOne(t *testing.T) {
	p := slowParser{t: t, specs: []string{"* * * * *", "0 3 * * *", "*/5 1,2 1 jan sun"}, selects: []string{"os=linux", "!gpu", "a,b!=c", "zone in (a, b)", "a=", "a = b"}}
	r := rand.New(rand.NewSource(1))
	errors := map[api.Errno]int{}
	for range 60000 {
		line := randomLine(r, p)
		want, wantE, wantPlace := p.parse(line)
		// What the slow one does not know of specs and selectors is not asked.
		if got, e, place := Parse(line); wantE == api.OK || e != api.OK && place == wantPlace {
			if !Same(got, want) || e != wantE || place != wantPlace {
				t.Fatalf("%q: %v %d %d, not %v %d %d", line, got, e, place, want, wantE, wantPlace)
			}
			errors[e]++
		} else if !knowsNot(line, p, wantPlace) {
			t.Fatalf("%q: %v %d %d, not %v %d %d", line, got, e, place, want, wantE, wantPlace)
		}
		j, e, _ := Parse(line)
		if e != api.OK {
			continue
		}
		if again := parsed(t, Print(j)); !Same(again, j) {
			t.Fatalf("%q: %q", line, Print(j))
		}
		if got := putAndGot(t, j); !Same(got, j) {
			t.Fatal(line, got)
		}
	}
	if errors[api.OK] < 10000 || errors[api.ErrJob] < 10000 {
		t.Error(errors)
	}
}

// knowsNot: is the fault that the slow one tells in a spec or a selector that is one, but not among its own?
func knowsNot(line string, p slowParser, place int) bool {
	part := strings.Split(line, ";")[min(place, strings.Count(line, ";"))]
	if place == 0 {
		_, text, _ := cutAt(part, ':')
		_, e, _ := cron.Parse(stripped(text))
		return e == api.OK && !slices.Contains(p.specs, stripped(text))
	}
	key, text, _ := cutAt(part, '=')
	_, e, _ := label.Parse(stripped(text))
	return stripped(key) == "select" && e == api.OK && !slices.Contains(p.selects, stripped(text))
}

// The chapter's example.

func TestExample(t *testing.T) {
	const line = "backup: 0 3 * * *; select=os=linux; jitter=600; wave=10; misfire=all 2"
	want := api.Job{
		Name: "backup", Spec: spec(t, "0 3 * * *"), Select: []api.Clause{{Kind: 1, Key: "os", Values: []string{"linux"}}},
		Jitter: 600, Wave: 10, Fail: 100, Deadline: 3600, Misfire: api.MissAll, Bound: 2,
	}
	if got := parsed(t, line); !Same(got, want) {
		t.Error(got)
	}
	if got := Print(want); got != line {
		t.Error(got)
	}
}
