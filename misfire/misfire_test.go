package misfire

import (
	"math"
	"math/rand"
	"slices"
	"testing"
	"time"

	"reveille/api"
	"reveille/cron"
	"reveille/job"
)

// lastMoment is the last minute that there is.
const lastMoment = api.MaxTime - 59

// jobOf is the job of a line.
func jobOf(t *testing.T, line string) api.Job {
	t.Helper()
	j, e, place := job.Parse(line)
	if e != api.OK {
		t.Fatal(line, e, place)
	}
	return j
}

// policies is jobs of this spec, of each policy one or more.
func policies(t *testing.T, spec string) []api.Job {
	t.Helper()
	var l []api.Job
	for _, misfire := range []string{"skip", "once", "all 1", "all 2", "all 3", "all 99", "all 100"} {
		l = append(l, jobOf(t, "a: "+spec+"; misfire="+misfire))
	}
	return l
}

// wrongJobs is jobs that may not be.
func wrongJobs(t *testing.T) []api.Job {
	t.Helper()
	l := []api.Job{{}}
	for _, do := range []func(j *api.Job){
		func(j *api.Job) { j.Name = "" },
		func(j *api.Job) { j.Name = "a b" },
		func(j *api.Job) { j.Spec = api.Spec{} },
		func(j *api.Job) { j.Spec.Hours = 0 },
		func(j *api.Job) { j.Spec.Minutes = 1 << 60 },
		// It may be a spec, but it has no text.
		func(j *api.Job) { j.Spec.Days = 1 << 7 },
		func(j *api.Job) { j.Select = []api.Clause{{}} },
		func(j *api.Job) { j.Jitter = -1 },
		func(j *api.Job) { j.Jitter = 3600 },
		func(j *api.Job) { j.Wave = 65537 },
		func(j *api.Job) { j.Fail = 101 },
		func(j *api.Job) { j.Parallel = -1 },
		func(j *api.Job) { j.Deadline = 59 },
		func(j *api.Job) { j.Misfire = 0 },
		func(j *api.Job) { j.Misfire = 4 },
		func(j *api.Job) { j.Misfire = math.MinInt },
		func(j *api.Job) { j.Bound = 0 },
		func(j *api.Job) { j.Bound = 101 },
		func(j *api.Job) { j.Bound = math.MaxInt },
		func(j *api.Job) { j.Misfire = api.MissOnce },
		func(j *api.Job) { j.Misfire = api.MissSkip },
	} {
		j := jobOf(t, "a: * * * * *; misfire=all 5")
		do(&j)
		l = append(l, j)
	}
	return l
}

// dueOf is occurrences: those that are left out, and those that are run; rising.
func dueOf(out, run []int) []api.Due {
	var l []api.Due
	for _, occ := range out {
		l = append(l, api.Due{Occ: occ})
	}
	for _, occ := range run {
		l = append(l, api.Due{Occ: occ, Run: true})
	}
	slices.SortFunc(l, func(a, b api.Due) int { return a.Occ - b.Occ })
	return l
}

func timeOf(year, month, day, hour, minute int) int {
	return int(time.Date(year, time.Month(month), day, hour, minute, 0, 0, time.UTC).Unix())
}

// P18.1

func TestDue(t *testing.T) {
	for _, one := range []struct {
		misfire    string
		since, now int
		out, run   []int
	}{
		// One that is not missed is run, whatever the policy.
		{"skip", 0, 60, nil, []int{60}}, {"once", 0, 60, nil, []int{60}}, {"all 2", 0, 60, nil, []int{60}},
		{"skip", 59, 60, nil, []int{60}}, {"skip", 0, 61, nil, []int{60}}, {"skip", 0, 119, nil, []int{60}}, {"once", 0, 119, nil, []int{60}}, {"all 9", 0, 119, nil, []int{60}},
		{"skip", 60, 119, nil, nil}, {"skip", 0, 59, nil, nil}, {"skip", 60, 120, nil, []int{120}}, {"skip", 61, 120, nil, []int{120}}, {"once", 119, 120, nil, []int{120}},
		// One is missed from 60 seconds behind it on.
		{"skip", 0, 120, []int{60}, []int{120}}, {"once", 0, 120, nil, []int{60, 120}}, {"all 1", 0, 120, nil, []int{60, 120}}, {"all 2", 0, 120, nil, []int{60, 120}},
		{"skip", 0, 300, []int{60, 120, 180, 240}, []int{300}}, {"once", 0, 300, []int{60, 120, 180}, []int{240, 300}},
		{"all 1", 0, 300, []int{60, 120, 180}, []int{240, 300}}, {"all 2", 0, 300, []int{60, 120}, []int{180, 240, 300}}, {"all 3", 0, 300, []int{60}, []int{120, 180, 240, 300}},
		{"all 4", 0, 300, nil, []int{60, 120, 180, 240, 300}}, {"all 5", 0, 300, nil, []int{60, 120, 180, 240, 300}}, {"all 100", 0, 300, nil, []int{60, 120, 180, 240, 300}},
		{"once", 0, 359, []int{60, 120, 180}, []int{240, 300}}, {"once", 1, 300, []int{60, 120, 180}, []int{240, 300}}, {"once", 60, 300, []int{120, 180}, []int{240, 300}}, {"once", -1, 120, []int{0}, []int{60, 120}},
		{"skip", -120, 0, []int{-60}, []int{0}}, {"once", -121, -1, nil, []int{-120, -60}}, {"skip", -61, -60, nil, []int{-60}},
		// There is none, if now is not above since.
		{"once", 60, 60, nil, nil}, {"once", 61, 60, nil, nil}, {"once", 600, 60, nil, nil}, {"all 9", api.MaxTime, api.MinTime, nil, nil}, {"skip", 0, 0, nil, nil}, {"skip", 1, 0, nil, nil},
		{"once", api.MinTime, api.MinTime, nil, nil}, {"once", api.MaxTime, api.MaxTime, nil, nil}, {"once", lastMoment, api.MinTime, nil, nil},
		// Where times begin and end.
		{"skip", api.MinTime, api.MinTime + 60, nil, []int{api.MinTime + 60}}, {"skip", api.MinTime, api.MinTime + 59, nil, nil}, {"once", api.MinTime, api.MinTime + 180, []int{api.MinTime + 60}, []int{api.MinTime + 120, api.MinTime + 180}},
		{"skip", lastMoment - 1, lastMoment, nil, []int{lastMoment}}, {"skip", lastMoment - 1, api.MaxTime, nil, []int{lastMoment}}, {"skip", lastMoment, api.MaxTime, nil, nil}, {"skip", api.MaxTime - 1, api.MaxTime, nil, nil},
		{"skip", lastMoment - 61, api.MaxTime - 1, []int{lastMoment - 60}, []int{lastMoment}}, {"once", lastMoment - 121, api.MaxTime, []int{lastMoment - 120}, []int{lastMoment - 60, lastMoment}},
	} {
		j := jobOf(t, "a: * * * * *; misfire="+one.misfire)
		if got, e := Due(j, one.since, one.now); e != api.OK || !slices.Equal(got, dueOf(one.out, one.run)) {
			t.Error(one, got, e)
		}
		if got := Passed(j, one.since, one.now); got != 0 {
			t.Error(one, "Passed", got)
		}
	}
}

func TestDueOfSpecs(t *testing.T) {
	for _, one := range []struct {
		line       string
		since, now int
		out, run   []int
	}{
		{"a: 0 3 * * *", timeOf(2024, 2, 28, 3, 0), timeOf(2024, 3, 1, 3, 0), []int{timeOf(2024, 2, 29, 3, 0)}, []int{timeOf(2024, 3, 1, 3, 0)}},
		{"a: 0 3 * * *; misfire=once", timeOf(2024, 2, 27, 3, 0), timeOf(2024, 3, 1, 2, 59), []int{timeOf(2024, 2, 28, 3, 0)}, []int{timeOf(2024, 2, 29, 3, 0)}},
		{"a: 0 3 * * *; misfire=all 2", timeOf(2024, 2, 26, 3, 1), timeOf(2024, 3, 1, 2, 59), []int{timeOf(2024, 2, 27, 3, 0)}, []int{timeOf(2024, 2, 28, 3, 0), timeOf(2024, 2, 29, 3, 0)}},
		{"a: 0 3 * * *", timeOf(2024, 2, 28, 3, 0), timeOf(2024, 2, 29, 2, 59), nil, nil},
		{"a: */15 9-17 * * mon-fri; misfire=all 2", timeOf(2024, 3, 1, 17, 0), timeOf(2024, 3, 4, 9, 0), []int{timeOf(2024, 3, 1, 17, 15)}, []int{timeOf(2024, 3, 1, 17, 30), timeOf(2024, 3, 1, 17, 45), timeOf(2024, 3, 4, 9, 0)}},
		{"a: 0 0 29 2 *; misfire=once", timeOf(2020, 2, 29, 0, 0), timeOf(2032, 2, 28, 0, 0), []int{timeOf(2024, 2, 29, 0, 0)}, []int{timeOf(2028, 2, 29, 0, 0)}},
		{"a: 0 0 30 2 *; misfire=all 100", api.MinTime, api.MaxTime, nil, nil},
		{"a: 0 0 1 1 *; misfire=all 2", timeOf(9990, 1, 2, 0, 0), api.MaxTime, []int{
			timeOf(9991, 1, 1, 0, 0), timeOf(9992, 1, 1, 0, 0), timeOf(9993, 1, 1, 0, 0), timeOf(9994, 1, 1, 0, 0), timeOf(9995, 1, 1, 0, 0), timeOf(9996, 1, 1, 0, 0), timeOf(9997, 1, 1, 0, 0)},
			[]int{timeOf(9998, 1, 1, 0, 0), timeOf(9999, 1, 1, 0, 0)}},
		{"a: 59 23 31 12 *", timeOf(9998, 12, 31, 23, 59), api.MaxTime, nil, []int{lastMoment}},
		{"a: 0 0 1 1 *", api.MinTime, timeOf(2, 1, 1, 0, 0), nil, []int{timeOf(2, 1, 1, 0, 0)}},
	} {
		if got, e := Due(jobOf(t, one.line), one.since, one.now); e != api.OK || !slices.Equal(got, dueOf(one.out, one.run)) {
			t.Error(one, got, e)
		}
	}
}

// Settings beside the policy say nothing here.
func TestDueOfSettings(t *testing.T) {
	want, _ := Due(jobOf(t, "a: */7 * * * *; misfire=all 3"), 12345, 23456)
	got, e := Due(jobOf(t, "b: */7 * * * *; select=os=linux; jitter=600; wave=3; fail=0; parallel=1; deadline=601; misfire=all 3"), 12345, 23456)
	if e != api.OK || !slices.Equal(got, want) || len(got) == 0 {
		t.Error(got, want, e)
	}
}

// isRefused: is this refused, and does Passed tell nothing?
func isRefused(j api.Job, since, now int) bool {
	l, e := Due(j, since, now)
	return l == nil && e == api.ErrArg && Passed(j, since, now) == 0
}

func TestRefused(t *testing.T) {
	wrongTimes := []int{api.MinTime - 1, api.MaxTime + 1, api.MinTime - 60, math.MinInt, math.MaxInt, math.MinInt + 1, math.MaxInt - 1}
	times := append([]int{api.MinTime, -1, 0, 60, 6000000, api.MaxTime}, wrongTimes...)
	for i, j := range wrongJobs(t) {
		for _, since := range times {
			for _, now := range times {
				if !isRefused(j, since, now) {
					t.Error(i, j, since, now)
				}
			}
			if occ, ok := Wake(j, since); occ != 0 || ok {
				t.Error(i, j, since, occ)
			}
		}
	}
	for _, j := range policies(t, "* * * * *") {
		for _, wrong := range wrongTimes {
			for _, other := range times {
				if !isRefused(j, wrong, other) || !isRefused(j, other, wrong) {
					t.Error(j, wrong, other)
				}
			}
			if occ, ok := Wake(j, wrong); occ != 0 || ok {
				t.Error(j, wrong, occ)
			}
		}
	}
}

// P18.1, P18.2: only the last ones are looked at.

func TestMostDue(t *testing.T) {
	for _, j := range policies(t, "* * * * *") {
		run := map[int]int{api.MissSkip: 0, api.MissOnce: 1, api.MissAll: j.Bound}[j.Misfire]
		for _, one := range []struct{ since, now, count int }{
			{0, 998 * 60, 998}, {0, 999 * 60, 999}, {0, 1000 * 60, 1000}, {0, 1000*60 + 59, 1000}, {0, 1001 * 60, 1001}, {-1, 1000 * 60, 1001}, {60, 1001 * 60, 1000}, {59, 1002 * 60, 1002}, {0, 5000 * 60, 5000},
			{api.MinTime, api.MaxTime, (api.MaxTime-api.MinTime+1)/60 - 1}, {api.MinTime, 0, -api.MinTime / 60},
		} {
			got, e := Due(j, one.since, one.now)
			if e != api.OK || len(got) != min(one.count, 1000) || Passed(j, one.since, one.now) != max(one.count-1000, 0) {
				t.Fatal(j, one, len(got), e, Passed(j, one.since, one.now))
			}
			last := one.now - (one.now%60+60)%60
			for i, d := range got {
				// The last one is not missed.
				if want := (api.Due{Occ: last - 60*(len(got)-1-i), Run: i >= len(got)-1-run}); d != want {
					t.Fatal(j, one, i, d, want)
				}
			}
		}
	}
}

func TestPassed(t *testing.T) {
	for _, one := range []struct {
		line       string
		since, now int
		want       int
	}{
		{"a: * * * * *", 0, 0, 0}, {"a: * * * * *", 0, 60, 0}, {"a: * * * * *", 0, 60 * 1000, 0}, {"a: * * * * *", 0, 60 * 1001, 1}, {"a: * * * * *", 0, 60*1001 - 1, 0}, {"a: * * * * *", 59, 60 * 1001, 1}, {"a: * * * * *", 60, 60 * 1001, 0},
		{"a: * * * * *", 60 * 1001, 0, 0}, {"a: * * * * *", api.MaxTime, api.MinTime, 0}, {"a: * * * * *; misfire=all 100", 0, 60 * 3000, 2000},
		{"a: 0 * * * *", 0, 3600 * 1500, 500}, {"a: 0 * * * *", -1, 3600 * 1500, 501}, {"a: 0 * * * *", 0, 3600*1500 - 1, 499},
		{"a: 0 0 1 1 *", api.MinTime, api.MaxTime, 8998}, {"a: 0 0 29 2 *", api.MinTime, api.MaxTime, 2424 - 1000}, {"a: 0 0 30 2 *", api.MinTime, api.MaxTime, 0},
		{"a: 59 23 31 12 *", api.MinTime, api.MaxTime, 8999}, {"a: 59 23 31 12 *", api.MinTime, lastMoment, 8999}, {"a: 59 23 31 12 *", api.MinTime, lastMoment - 1, 8998},
	} {
		if got := Passed(jobOf(t, one.line), one.since, one.now); got != one.want {
			t.Error(one, got)
		}
	}
}

// P18.2: Wake

func TestWake(t *testing.T) {
	for _, one := range []struct {
		line        string
		since, want int
		ok          bool
	}{
		{"a: * * * * *", 0, 60, true}, {"a: * * * * *", 59, 60, true}, {"a: * * * * *", 60, 120, true}, {"a: * * * * *", -1, 0, true}, {"a: * * * * *", -60, 0, true}, {"a: * * * * *", -61, -60, true},
		{"a: * * * * *; misfire=once", api.MinTime, api.MinTime + 60, true}, {"a: * * * * *; misfire=all 3", lastMoment - 1, lastMoment, true},
		{"a: * * * * *", lastMoment, 0, false}, {"a: * * * * *", api.MaxTime, 0, false}, {"a: 0 0 30 2 *", 0, 0, false}, {"a: 0 0 30 2 *", api.MinTime, 0, false},
		{"a: 0 0 29 2 *", timeOf(2024, 3, 1, 0, 0), timeOf(2028, 2, 29, 0, 0), true}, {"a: 0 0 29 2 *", timeOf(9996, 2, 29, 0, 0), 0, false}, {"a: 0 0 29 2 *", timeOf(9996, 2, 29, 0, 0) - 1, timeOf(9996, 2, 29, 0, 0), true},
		{"backup: 0 3 * * *; select=os=linux; jitter=600; wave=10; misfire=all 2", timeOf(2024, 12, 31, 3, 0), timeOf(2025, 1, 1, 3, 0), true},
		{"a: 0 0 1 1 *", -1, 0, true},
	} {
		if occ, ok := Wake(jobOf(t, one.line), one.since); occ != one.want || ok != one.ok {
			t.Error(one, occ, ok)
		}
	}
}

// slowDue goes from minute to minute; of those that match it keeps the last thousand.
func slowDue(j api.Job, since, now int) ([]api.Due, int) {
	var l []api.Due
	for at := now - (now%60+60)%60; at > since && at >= api.MinTime; at -= 60 {
		if cron.Matches(j.Spec, at) {
			l = append(l, api.Due{Occ: at})
		}
	}
	passed := max(len(l)-1000, 0)
	l = l[:len(l)-passed]
	missed := 0
	for i, d := range l {
		if now-d.Occ < 60 {
			l[i].Run = true
			continue
		}
		missed++
		l[i].Run = j.Misfire == api.MissOnce && missed == 1 || j.Misfire == api.MissAll && missed <= j.Bound
	}
	slices.Reverse(l)
	return l, passed
}

func randomJob(t *testing.T, r *rand.Rand) api.Job {
	t.Helper()
	specs := []string{"* * * * *", "*/5 * * * *", "0 * * * *", "7,9,58 1-4 * * *", "30 12 * * mon", "0 0 1,15 * *", "0 0 13 * fri", "59 23 * * *", "0,59 0,23 * * *", "*/2 */3 */2 * *", "0 0 29 2 *"}
	l := policies(t, specs[r.Intn(len(specs))])
	return l[r.Intn(len(l))]
}

// randomSpan is two times: near to one another or far, in any place, also where times begin and end.
func randomSpan(r *rand.Rand) (since, now int) {
	since = []int{api.MinTime, -100000, 1700000000, lastMoment - 1000000, api.MaxTime - 1000, r.Intn(1 << 37)}[r.Intn(6)] + r.Intn(500)
	now = min(since+r.Intn(1<<(1+r.Intn(20)))-r.Intn(2)*r.Intn(200), api.MaxTime)
	return since, max(now, api.MinTime)
}

// P18.1, P18.2

func TestAsTheSlowOne(t *testing.T) {
	r := rand.New(rand.NewSource(1))
	told, many := 0, 0
	for range 3000 {
		j := randomJob(t, r)
		since, now := randomSpan(r)
		got, e := Due(j, since, now)
		want, passed := slowDue(j, since, now)
		if e != api.OK || !slices.Equal(got, want) || Passed(j, since, now) != passed {
			t.Fatal(j, since, now, got, e, want, Passed(j, since, now), passed)
		}
		told += len(got)
		if passed > 0 {
			many++
		}
		if len(want) > 0 && passed == 0 {
			if occ, ok := Wake(j, since); !ok || occ != want[0].Occ {
				t.Fatal(j, since, occ, want[0])
			}
		}
	}
	if told < 50000 || many < 20 {
		t.Error("too few", told, many)
	}
}

func occsOf(t *testing.T, j api.Job, since, now int) []int {
	t.Helper()
	due, e := Due(j, since, now)
	if e != api.OK {
		t.Fatal(j, since, now, e)
	}
	var l []int
	for _, d := range due {
		l = append(l, d.Occ)
	}
	return l
}

// P18.3

func TestLookingTwice(t *testing.T) {
	r := rand.New(rand.NewSource(2))
	looks := 0
	for range 2000 {
		j := randomJob(t, r)
		since, now := randomSpan(r)
		if now <= since {
			continue
		}
		once := occsOf(t, j, since, now)
		if Passed(j, since, now) > 0 {
			continue
		}
		middle := since + r.Intn(now-since+1)
		if len(once) > 0 && r.Intn(3) == 0 {
			middle = once[r.Intn(len(once))]
		}
		if twice := append(occsOf(t, j, since, middle), occsOf(t, j, middle, now)...); !slices.Equal(once, twice) {
			t.Fatal(j, since, middle, now, once, twice)
		}
		looks++
	}
	if looks < 1000 {
		t.Error("too few", looks)
	}
}

// Looking each second tells each occurrence once, and each is run.
func TestLookingEachSecond(t *testing.T) {
	for _, j := range policies(t, "*/3 * * * *") {
		var l []api.Due
		for now := -1000; now < 1000; now++ {
			due, e := Due(j, now-1, now)
			if e != api.OK {
				t.Fatal(j, now, e)
			}
			l = append(l, due...)
		}
		if want := dueOf(nil, occsOf(t, j, -1001, 999)); !slices.Equal(l, want) || len(l) != 11 {
			t.Error(j, l, want)
		}
	}
}

// R3

func TestDueIsNew(t *testing.T) {
	j := jobOf(t, "a: * * * * *; select=b=c,d in (e,f); misfire=once")
	a, _ := Due(j, 0, 300)
	b, _ := Due(j, 0, 300)
	for i := range a[:cap(a)] {
		a[:cap(a)][i] = api.Due{Occ: 99, Run: true}
	}
	if !slices.Equal(b, dueOf([]int{60, 120, 180}, []int{240, 300})) || !job.Same(j, jobOf(t, "a: * * * * *; select=b=c,d in (e,f); misfire=once")) {
		t.Error(b, j)
	}
}

// The chapter's example.

func TestExample(t *testing.T) {
	got, e := Due(jobOf(t, "a: * * * * *; misfire=once"), 0, 300)
	if e != api.OK || !slices.Equal(got, []api.Due{{Occ: 60}, {Occ: 120}, {Occ: 180}, {Occ: 240, Run: true}, {Occ: 300, Run: true}}) {
		t.Error(got, e)
	}
}
