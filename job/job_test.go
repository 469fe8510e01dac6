package job

import (
	"bytes"
	"math"
	"slices"
	"strconv"
	"strings"
	"testing"

	"reveille/api"
	"reveille/cron"
	"reveille/label"
	"reveille/pack"
)

func spec(t *testing.T, text string) api.Spec {
	t.Helper()
	s, e, _ := cron.Parse(text)
	if e != api.OK {
		t.Fatal(text, e)
	}
	return s
}

func selector(t *testing.T, text string) []api.Clause {
	t.Helper()
	c, e, _ := label.Parse(text)
	if e != api.OK {
		t.Fatal(text, e)
	}
	return c
}

// usual is a job without any setting.
func usual(t *testing.T) api.Job {
	return api.Job{Name: "a", Spec: spec(t, "* * * * *"), Fail: 100, Deadline: 3600, Misfire: api.MissSkip}
}

// whole is a job with all settings.
func whole(t *testing.T) api.Job {
	return api.Job{
		Name: "backup", Spec: spec(t, "0 3 * * *"), Select: selector(t, "os=linux,zone in (a,b),!gpu"),
		Jitter: 600, Wave: 10, Fail: 20, Parallel: 3, Deadline: 7200, Misfire: api.MissAll, Bound: 2,
	}
}

// specOf is a spec whose text has so many bytes.
func specOf(t *testing.T, size int) api.Spec {
	t.Helper()
	var s api.Spec
	for _, from := range []int{8, 9, 10, 11} {
		for last := from; last < 60; last++ {
			for days := 10; days < 31; days++ {
				s = api.Spec{Minutes: 1<<last - 1<<from, Hours: 1<<24 - 2, Days: 1<<days - 2, Months: 2, Weekdays: 1, AnyDay: false}
				if len(cron.Print(s)) == size {
					return s
				}
			}
		}
	}
	t.Fatal("no spec of", size)
	return s
}

// selectOf is a selector whose text has so many bytes.
func selectOf(t *testing.T, size int) []api.Clause {
	t.Helper()
	var c []api.Clause
	for left := size + 1; left > 0; {
		n := min(left, 33)
		if left > 33 && left < 35 {
			n = 31
		}
		if len(c) < 8 && left > 200 {
			// The clause has one value more of 32 bytes, with the sign.
			c = append(c, api.Clause{Kind: 1, Key: strings.Repeat("k", 32), Values: []string{strings.Repeat("v", 32)}})
			left -= 66
			continue
		}
		c = append(c, api.Clause{Kind: 3, Key: strings.Repeat("k", n-1)})
		left -= n
	}
	if text := label.Print(c); len(text) != size {
		t.Fatal("selector", size, len(text))
	}
	return c
}

type change struct {
	what string
	do   func(j *api.Job)
}

// P14.1: May

func TestMay(t *testing.T) {
	for _, one := range []change{
		{"nothing", func(j *api.Job) {}},
		{"name", func(j *api.Job) { j.Name = strings.Repeat("x", 32) }},
		{"name", func(j *api.Job) { j.Name = "a/b_c-d.E9" }},
		{"spec", func(j *api.Job) { j.Spec = specOf(t, 256) }},
		{"spec", func(j *api.Job) { j.Spec = spec(t, "*/7 1,2 */3 jan sun") }},
		{"select", func(j *api.Job) { j.Select = []api.Clause{} }},
		{"select", func(j *api.Job) { j.Select = selector(t, "a") }},
		{"select", func(j *api.Job) { j.Select = selectOf(t, 512) }},
		{"jitter", func(j *api.Job) { j.Jitter = 3599 }},
		{"jitter", func(j *api.Job) { j.Jitter, j.Deadline = 86400, 86401 }},
		{"wave", func(j *api.Job) { j.Wave = 1 }},
		{"wave", func(j *api.Job) { j.Wave = 65536 }},
		{"parallel", func(j *api.Job) { j.Parallel = 1 }},
		{"parallel", func(j *api.Job) { j.Parallel = 65536 }},
		{"fail", func(j *api.Job) { j.Fail = 0 }},
		{"fail", func(j *api.Job) { j.Fail = 99 }},
		{"deadline", func(j *api.Job) { j.Deadline = 60 }},
		{"deadline", func(j *api.Job) { j.Deadline, j.Jitter = 60, 59 }},
		{"deadline", func(j *api.Job) { j.Deadline = 604800 }},
		{"misfire", func(j *api.Job) { j.Misfire = api.MissOnce }},
		{"misfire", func(j *api.Job) { j.Misfire, j.Bound = api.MissAll, 1 }},
		{"misfire", func(j *api.Job) { j.Misfire, j.Bound = api.MissAll, 100 }},
	} {
		j := usual(t)
		one.do(&j)
		if !May(j) {
			t.Error(one.what, j)
		}
	}
	if !May(whole(t)) || May(api.Job{}) {
		t.Error("whole, empty")
	}
}

// wrong is what a job may not have.
func wrong(t *testing.T) []change {
	return []change{
		{"name", func(j *api.Job) { j.Name = "" }},
		{"name", func(j *api.Job) { j.Name = strings.Repeat("x", 33) }},
		{"name", func(j *api.Job) { j.Name = "a b" }},
		{"name", func(j *api.Job) { j.Name = " a" }},
		{"name", func(j *api.Job) { j.Name = "a:" }},
		{"name", func(j *api.Job) { j.Name = "ä" }},
		{"spec", func(j *api.Job) { j.Spec = api.Spec{} }},
		{"spec", func(j *api.Job) { j.Spec.Minutes = 0 }},
		{"spec", func(j *api.Job) { j.Spec.Days |= 1 }},
		{"spec", func(j *api.Job) { j.Spec = spec(t, "* * */2,2 * *") }},
		{"spec", func(j *api.Job) { j.Spec = specOf(t, 257) }},
		{"select", func(j *api.Job) { j.Select = []api.Clause{{}} }},
		{"select", func(j *api.Job) { j.Select = []api.Clause{{Kind: 5, Key: "a"}} }},
		{"select", func(j *api.Job) { j.Select = []api.Clause{{Kind: 1, Key: "a"}} }},
		{"select", func(j *api.Job) { j.Select = slices.Repeat(selector(t, "a"), 17) }},
		{"select", func(j *api.Job) { j.Select = selectOf(t, 513) }},
		{"jitter", func(j *api.Job) { j.Jitter = -1 }},
		{"jitter", func(j *api.Job) { j.Jitter = 3600 }},
		{"jitter", func(j *api.Job) { j.Jitter, j.Deadline = 86401, 604800 }},
		{"jitter", func(j *api.Job) { j.Jitter = math.MaxInt }},
		{"jitter", func(j *api.Job) { j.Jitter = math.MinInt }},
		{"wave", func(j *api.Job) { j.Wave = -1 }},
		{"wave", func(j *api.Job) { j.Wave = 65537 }},
		{"parallel", func(j *api.Job) { j.Parallel = -1 }},
		{"parallel", func(j *api.Job) { j.Parallel = 65537 }},
		{"fail", func(j *api.Job) { j.Fail = -1 }},
		{"fail", func(j *api.Job) { j.Fail = 101 }},
		{"deadline", func(j *api.Job) { j.Deadline = 59 }},
		{"deadline", func(j *api.Job) { j.Deadline = 0 }},
		{"deadline", func(j *api.Job) { j.Deadline = 604801 }},
		{"deadline", func(j *api.Job) { j.Deadline, j.Jitter = 60, 60 }},
		{"misfire", func(j *api.Job) { j.Misfire = 0 }},
		{"misfire", func(j *api.Job) { j.Misfire = 4 }},
		{"misfire", func(j *api.Job) { j.Misfire = -1 }},
		{"misfire", func(j *api.Job) { j.Misfire, j.Bound = 4, 1 }},
		{"misfire", func(j *api.Job) { j.Misfire = api.MissAll }},
		{"bound", func(j *api.Job) { j.Misfire, j.Bound = api.MissAll, 101 }},
		{"bound", func(j *api.Job) { j.Misfire, j.Bound = api.MissAll, -1 }},
		{"bound", func(j *api.Job) { j.Bound = 1 }},
		{"bound", func(j *api.Job) { j.Misfire, j.Bound = api.MissOnce, 1 }},
		{"bound", func(j *api.Job) { j.Bound = -1 }},
	}
}

func TestMayNot(t *testing.T) {
	for i, one := range wrong(t) {
		j := usual(t)
		one.do(&j)
		if May(j) {
			t.Error(i, one.what, j)
		}
		if line := Print(j); line != "" {
			t.Error(i, one.what, "Print", line)
		}
		// A selector that has no text is put as none.
		want := api.Job{}
		if len(j.Select) > 0 && label.Print(j.Select) == "" {
			want = usual(t)
		}
		if got := putAndGot(t, j); !Same(got, want) {
			t.Error(i, one.what, "Get", got)
		}
	}
}

// P14.3: Put, Get, Same

func put(t *testing.T, j api.Job) []byte {
	t.Helper()
	p := pack.New()
	Put(p, j)
	b, e := p.Done()
	if e != api.OK {
		t.Fatal("Put", e)
	}
	return b
}

// putAndGot is what Get tells of a job that was put; all of its bytes must have been read.
func putAndGot(t *testing.T, j api.Job) api.Job {
	t.Helper()
	r := pack.Read(put(t, j))
	got := Get(r)
	if e := r.Done(); e != api.OK {
		t.Error("Done", e, r.Left())
	}
	return got
}

func TestPut(t *testing.T) {
	j := whole(t)
	p := pack.New()
	for _, text := range []string{"backup", "0 3 * * *", "os=linux,zone in (a,b),!gpu"} {
		p.Text(text)
	}
	for _, n := range []int{600, 10, 20, 3, 7200, 3, 2} {
		p.Int(n)
	}
	want, _ := p.Done()
	if got := put(t, j); !bytes.Equal(got, want) {
		t.Errorf("% x, not % x", got, want)
	}
	// What may not be is put as it stands: as far as there are texts.
	bad := api.Job{Name: strings.Repeat("ä", 50), Jitter: -1, Bound: math.MinInt}
	p = pack.New()
	for _, text := range []string{bad.Name, "", ""} {
		p.Text(text)
	}
	for _, n := range []int{-1, 0, 0, 0, 0, 0, math.MinInt} {
		p.Int(n)
	}
	want, _ = p.Done()
	if got := put(t, bad); !bytes.Equal(got, want) {
		t.Errorf("% x, not % x", got, want)
	}
	p = pack.New()
	Put(p, api.Job{Name: strings.Repeat("a", 4097)})
	if _, e := p.Done(); e != api.ErrLong {
		t.Error("too long", e)
	}
	Put(nil, j)
}

func TestGet(t *testing.T) {
	for _, j := range []api.Job{usual(t), whole(t)} {
		if got := putAndGot(t, j); !Same(got, j) {
			t.Error(got, j)
		}
		b := put(t, j)
		for size := range len(b) {
			r := pack.Read(b[:size])
			if got := Get(r); !Same(got, api.Job{}) || !r.Failed() {
				t.Error("cut", size, got, r.Failed())
			}
		}
		// Get leaves what is behind.
		r := pack.Read(append(slices.Clone(b), 7, 8))
		if got := Get(r); !Same(got, j) || r.Left() != 2 || r.Failed() {
			t.Error("left", got, r.Left(), r.Failed())
		}
	}
	if got := Get(nil); !Same(got, api.Job{}) {
		t.Error("nil", got)
	}
	failed := pack.Read(nil)
	failed.Flag()
	if got := Get(failed); !Same(got, api.Job{}) {
		t.Error("failed", got)
	}
}

func TestGetOfWrongTexts(t *testing.T) {
	numbers := []int{0, 0, 100, 0, 3600, 1, 0}
	for _, texts := range [][3]string{{"a", "* * * *", ""}, {"a", "", ""}, {"a", "* * * * 8", ""}, {"a", "* * * * *", "="}, {"a", "* * * * *", "a,"}, {"", "* * * * *", ""}, {"a ", "* * * * *", ""}} {
		p := pack.New()
		for _, text := range texts {
			p.Text(text)
		}
		for _, n := range numbers {
			p.Int(n)
		}
		p.Text("behind")
		b, _ := p.Done()
		r := pack.Read(b)
		if got := Get(r); !Same(got, api.Job{}) || r.Failed() {
			t.Error(texts, got, r.Failed())
		}
		// The reader goes on behind the job.
		if text := r.Text(); text != "behind" || r.Done() != api.OK {
			t.Error(texts, text)
		}
	}
}

func TestSame(t *testing.T) {
	j := whole(t)
	if !Same(j, whole(t)) || !Same(api.Job{}, api.Job{}) || !Same(usual(t), usual(t)) {
		t.Error("the same")
	}
	for i, one := range []change{
		{"name", func(j *api.Job) { j.Name = "Backup" }},
		{"minutes", func(j *api.Job) { j.Spec.Minutes++ }},
		{"hours", func(j *api.Job) { j.Spec.Hours++ }},
		{"days", func(j *api.Job) { j.Spec.Days++ }},
		{"months", func(j *api.Job) { j.Spec.Months++ }},
		{"weekdays", func(j *api.Job) { j.Spec.Weekdays++ }},
		{"any day", func(j *api.Job) { j.Spec.AnyDay = !j.Spec.AnyDay }},
		{"any week", func(j *api.Job) { j.Spec.AnyWeek = !j.Spec.AnyWeek }},
		{"select", func(j *api.Job) { j.Select = nil }},
		{"select", func(j *api.Job) { j.Select = j.Select[:2] }},
		{"select", func(j *api.Job) { j.Select[0], j.Select[1] = j.Select[1], j.Select[0] }},
		{"kind", func(j *api.Job) { j.Select[0].Kind = 2 }},
		{"key", func(j *api.Job) { j.Select[0].Key = "Os" }},
		{"values", func(j *api.Job) { j.Select[1].Values[1] = "c" }},
		{"values", func(j *api.Job) { j.Select[1].Values = j.Select[1].Values[:1] }},
		{"jitter", func(j *api.Job) { j.Jitter++ }},
		{"wave", func(j *api.Job) { j.Wave++ }},
		{"fail", func(j *api.Job) { j.Fail++ }},
		{"parallel", func(j *api.Job) { j.Parallel++ }},
		{"deadline", func(j *api.Job) { j.Deadline++ }},
		{"misfire", func(j *api.Job) { j.Misfire++ }},
		{"bound", func(j *api.Job) { j.Bound++ }},
	} {
		other := whole(t)
		one.do(&other)
		if Same(j, other) || Same(other, j) || !Same(other, other) {
			t.Error(i, one.what)
		}
	}
	// nil and the empty list are the same.
	a, b := usual(t), usual(t)
	a.Select = []api.Clause{}
	if !Same(a, b) || !Same(b, a) {
		t.Error("empty")
	}
	a.Select, b.Select = []api.Clause{{Kind: 3, Key: "a", Values: []string{}}}, []api.Clause{{Kind: 3, Key: "a"}}
	if !Same(a, b) || !Same(b, a) {
		t.Error("empty values")
	}
}

// R3: nothing that is handed in is changed or kept.

func TestNothingIsShared(t *testing.T) {
	j := whole(t)
	May(j)
	Print(j)
	Put(pack.New(), j)
	Same(j, j)
	if !Same(j, whole(t)) {
		t.Error("changed", j)
	}
	b := put(t, j)
	r := pack.Read(b)
	got := Get(r)
	clear(b)
	if !Same(got, j) {
		t.Error("kept", got)
	}
	for i := range got.Select {
		got.Select[i].Values = append(got.Select[i].Values[:0:0], strconv.Itoa(i))
	}
	if again := putAndGot(t, j); !Same(again, j) {
		t.Error("shared", again)
	}
}
