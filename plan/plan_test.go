package plan

import (
	"math"
	"math/rand"
	"slices"
	"sort"
	"strconv"
	"testing"

	"reveille/api"
	"reveille/job"
	"reveille/mix"
	"reveille/wire"
)

// jobOf is the job of a line.
func jobOf(t *testing.T, line string) api.Job {
	t.Helper()
	j, e, place := job.Parse(line)
	if e != api.OK {
		t.Fatal(line, e, place)
	}
	return j
}

// upTo is the hosts 0 to n - 1.
func upTo(n int) []int {
	l := make([]int, n)
	for i := range l {
		l[i] = i
	}
	return l
}

func wavesOf(l []api.Run) []int {
	var waves []int
	for _, r := range l {
		waves = append(waves, r.Wave)
	}
	return waves
}

func hostsOf(l []api.Run) []int {
	var hosts []int
	for _, r := range l {
		hosts = append(hosts, r.Key.Host)
	}
	return hosts
}

// wrongJobs is jobs that may not be.
func wrongJobs(t *testing.T) []api.Job {
	t.Helper()
	l := []api.Job{{}}
	for _, do := range []func(j *api.Job){
		func(j *api.Job) { j.Name = "" },
		func(j *api.Job) { j.Name = "a b" },
		func(j *api.Job) { j.Spec = api.Spec{} },
		func(j *api.Job) { j.Select = []api.Clause{{}} },
		func(j *api.Job) { j.Jitter = -1 },
		func(j *api.Job) { j.Jitter = 3600 },
		func(j *api.Job) { j.Jitter = math.MaxInt },
		func(j *api.Job) { j.Wave = -1 },
		func(j *api.Job) { j.Wave = 65537 },
		func(j *api.Job) { j.Fail = 101 },
		func(j *api.Job) { j.Parallel = -1 },
		func(j *api.Job) { j.Deadline = 59 },
		func(j *api.Job) { j.Deadline = math.MaxInt },
		func(j *api.Job) { j.Deadline = math.MinInt },
		func(j *api.Job) { j.Misfire = 0 },
		func(j *api.Job) { j.Bound = 1 },
	} {
		j := jobOf(t, "a: * * * * *; jitter=600")
		do(&j)
		l = append(l, j)
	}
	return l
}

// P16.1: Jitter, Rank

func TestJitter(t *testing.T) {
	for _, one := range []struct {
		line       string
		host, want int
	}{
		{"a: * * * * *", 0, 0},
		{"a: * * * * *", 65535, 0},
		{"backup: * * * * *; jitter=600", 0, 319},
		{"backup: 0 3 * * *; jitter=600", 1, 284},
		{"backup: 0 3 * * *; jitter=600; wave=2; deadline=601", 2, 55},
		{"backup: * * * * *; jitter=600", 65535, 217},
		{"backup: * * * * *; jitter=600", -1, 502},
		{"backup: * * * * *; jitter=1", 3, 1},
		{"backup: * * * * *; jitter=86400; deadline=86401", 7, 27385},
	} {
		if got := Jitter(jobOf(t, one.line), one.host); got != one.want {
			t.Error(one.line, one.host, got)
		}
	}
	for _, j := range wrongJobs(t) {
		for _, host := range []int{0, 1, 7, -1, math.MaxInt, math.MinInt} {
			if got := Jitter(j, host); got != 0 {
				t.Error(j, host, got)
			}
		}
	}
}

func TestJitterIsSpread(t *testing.T) {
	j := jobOf(t, "sweep: * * * * *; jitter=9")
	seen := map[int]int{}
	for host := range 5000 {
		got := Jitter(j, host)
		if want := mix.Spread(10, "sweep", strconv.Itoa(host)); got != want {
			t.Fatal(host, got, want)
		}
		seen[got]++
	}
	for n := range 10 {
		if seen[n] < 400 || len(seen) != 10 {
			t.Error(n, seen)
		}
	}
	for _, host := range []int{-1, -65536, 65536, math.MaxInt, math.MinInt} {
		if got, want := Jitter(j, host), mix.Spread(10, "sweep", strconv.Itoa(host)); got != want {
			t.Error(host, got, want)
		}
	}
}

func TestRank(t *testing.T) {
	for _, one := range []struct {
		name      string
		occ, host int
		want      uint64
	}{
		{"a", 0, 0, 0xcd763d16f77d1e17},
		{"backup", 1709283600, 7, 0x71880a1e025ea490},
		{"a", -60, 65535, 0xd4ccc8a0b843b1b5},
		{"a", 0, -1, 0x09f8e0e1ae867d27},
	} {
		// Of a job nothing but its name is asked.
		for _, j := range []api.Job{{Name: one.name}, jobOf(t, one.name+": 0 3 * * *; jitter=7; wave=3")} {
			if got := Rank(j, one.occ, one.host); got != one.want {
				t.Errorf("%v: %x", one, got)
			}
		}
	}
	for _, name := range []string{"", "a b", "\x00ä"} {
		for _, n := range []int{1, math.MaxInt, math.MinInt} {
			if got, want := Rank(api.Job{Name: name}, n, -n), mix.Hash(name, strconv.Itoa(n), strconv.Itoa(-n)); got != want {
				t.Error(name, n, got, want)
			}
		}
	}
}

func TestEqualRanks(t *testing.T) {
	l := []ranked{{host: 9, rank: 5}, {host: 3, rank: 7}, {host: 10, rank: 5}, {host: 1, rank: 1 << 63}, {host: 2, rank: 5}, {host: 0, rank: 1<<64 - 1}}
	slices.SortFunc(l, ranked.against)
	if want := []ranked{{2, 5}, {9, 5}, {10, 5}, {3, 7}, {1, 1 << 63}, {0, 1<<64 - 1}}; !slices.Equal(l, want) {
		t.Error(l)
	}
}

// P16.1: Runs

// The chapter's example.

func TestExample(t *testing.T) {
	l, e := Runs(jobOf(t, "a: * * * * *; wave=2"), 1, 0, upTo(5))
	if e != api.OK || !slices.Equal(wavesOf(l), []int{0, 0, 1, 1, 2}) || Waves(l) != 3 {
		t.Error(l, e)
	}
}

func TestRuns(t *testing.T) {
	j := jobOf(t, "a: * * * * *; jitter=100; wave=3; deadline=200")
	for occ, hosts := range map[int][]int{
		0:   {7, 3, 1, 5, 4, 0, 6, 2},
		60:  {1, 3, 4, 2, 0, 7, 5, 6},
		-60: {1, 2, 7, 5, 3, 6, 0, 4},
	} {
		l, e := Runs(j, 9, occ, upTo(8))
		var want []api.Run
		for place, host := range hosts {
			want = append(want, api.Run{Key: api.Key{Job: "a", Occ: occ, Host: host}, Version: 9, At: occ + Jitter(j, host), Until: occ + 200, Wave: place / 3})
		}
		if e != api.OK || !slices.Equal(l, want) {
			t.Error(occ, l, e, want)
		}
	}
	for _, hosts := range [][]int{nil, {}} {
		if l, e := Runs(j, 1, 0, hosts); len(l) != 0 || e != api.OK {
			t.Error("no hosts", l, e)
		}
	}
}

func TestRunsWaves(t *testing.T) {
	for wave, want := range map[int][]int{
		0:     {0, 0, 0, 0, 0, 0, 0},
		1:     {0, 1, 2, 3, 4, 5, 6},
		2:     {0, 0, 1, 1, 2, 2, 3},
		3:     {0, 0, 0, 1, 1, 1, 2},
		6:     {0, 0, 0, 0, 0, 0, 1},
		7:     {0, 0, 0, 0, 0, 0, 0},
		8:     {0, 0, 0, 0, 0, 0, 0},
		65536: {0, 0, 0, 0, 0, 0, 0},
	} {
		j := jobOf(t, "a: * * * * *; wave="+strconv.Itoa(wave))
		l, e := Runs(j, 1, 120, []int{0, 5, 6, 100, 1000, 10000, 65535})
		if e != api.OK || !slices.Equal(wavesOf(l), want) || Waves(l) != want[6]+1 {
			t.Error(wave, l, e)
		}
	}
}

func TestRunsBounds(t *testing.T) {
	j := jobOf(t, "a: * * * * *; deadline=600")
	late := api.MaxTime - 59 - 600 // with the Deadline it is the last moment
	for _, one := range []struct {
		version, occ int
		hosts        []int
	}{
		{1, 0, []int{0}}, {api.MaxBoot, 0, []int{65535}}, {7, api.MinTime, []int{0, 65535}}, {7, late, []int{3}}, {7, -60, nil}, {1, late, nil},
	} {
		l, e := Runs(j, one.version, one.occ, one.hosts)
		if e != api.OK || len(l) != len(one.hosts) {
			t.Error(one, l, e)
		}
		for _, r := range l {
			if r.Version != one.version || r.Key.Occ != one.occ || r.At != one.occ || r.Until != one.occ+600 {
				t.Error(one, r)
			}
		}
	}
	// With a Deadline of 659 seconds it is the last time.
	if l, e := Runs(jobOf(t, "a: * * * * *; deadline=659"), 1, late, upTo(1)); e != api.OK || l[0].Until != api.MaxTime {
		t.Error(l, e)
	}
	if l, e := Runs(jobOf(t, "a: * * * * *; deadline=660"), 1, late, upTo(1)); e != api.ErrArg || len(l) != 0 {
		t.Error(l, e)
	}
}

func TestRunsRefused(t *testing.T) {
	j := jobOf(t, "a: * * * * *; jitter=7")
	refused := func(what any, j api.Job, version, occ int, hosts []int) {
		t.Helper()
		if l, e := Runs(j, version, occ, hosts); e != api.ErrArg || l != nil {
			t.Error(what, l, e)
		}
	}
	for _, hosts := range [][]int{{0, 1}, nil} {
		for i, wrong := range wrongJobs(t) {
			refused(i, wrong, 1, 0, hosts)
		}
		for _, version := range []int{0, -1, api.MaxBoot + 1, math.MaxInt, math.MinInt} {
			refused(version, j, version, 0, hosts)
		}
		for _, occ := range []int{1, 59, 61, -1, -59, api.MinTime - 60, api.MinTime - 1, api.MinTime + 1, api.MaxTime, api.MaxTime - 59, api.MaxTime + 1, math.MaxInt, math.MinInt, math.MaxInt - math.MaxInt%60, math.MinInt - math.MinInt%60} {
			refused(occ, j, 1, occ, hosts)
		}
		// It is a moment, but with the Deadline no time.
		refused("late", j, 1, api.MaxTime-59-3540, hosts)
	}
	for _, hosts := range [][]int{{-1}, {65536}, {-1, 0}, {0, 65536}, {math.MinInt}, {math.MaxInt}, {math.MinInt, math.MaxInt}, {1, 0}, {0, 0}, {5, 5, 6}, {0, 2, 1}, {0, 1, 1}, {65535, 65535}, {3, -1}} {
		refused(hosts, j, 1, 0, hosts)
	}
}

func TestRunsLong(t *testing.T) {
	j := jobOf(t, "a: * * * * *; wave=100")
	l, e := Runs(j, 1, 0, upTo(4096))
	if e != api.OK || len(l) != 4096 || Waves(l) != 41 {
		t.Error(len(l), e)
	}
	for _, n := range []int{4097, 5000, 65536} {
		if l, e := Runs(j, 1, 0, upTo(n)); e != api.ErrLong || l != nil {
			t.Error(n, len(l), e)
		}
		// What may not be is told first.
		wrong := upTo(n)
		wrong[n-1] = n - 2
		for _, hosts := range [][]int{wrong, upTo(65537)} {
			if l, e := Runs(j, 1, 0, hosts); e != api.ErrArg || l != nil {
				t.Error(n, len(l), e)
			}
		}
		if l, e := Runs(j, 0, 0, upTo(n)); e != api.ErrArg || l != nil {
			t.Error(n, len(l), e)
		}
		if l, e := Runs(j, 1, 1, upTo(n)); e != api.ErrArg || l != nil {
			t.Error(n, len(l), e)
		}
	}
}

// slowRuns is the runs of hosts, as the chapter has them: sorted by the library, one comparison at a time.
func slowRuns(j api.Job, version, occ int, hosts []int) []api.Run {
	l := slices.Clone(hosts)
	rank := func(host int) uint64 { return mix.Hash(j.Name, strconv.Itoa(occ), strconv.Itoa(host)) }
	sort.Slice(l, func(a, b int) bool {
		if rank(l[a]) == rank(l[b]) {
			return l[a] < l[b]
		}
		return rank(l[a]) < rank(l[b])
	})
	var runs []api.Run
	for place, host := range l {
		r := api.Run{Key: api.Key{Job: j.Name, Occ: occ, Host: host}, Version: version}
		r.At = occ + mix.Spread(j.Jitter+1, j.Name, strconv.Itoa(host))
		r.Until = occ + j.Deadline
		if j.Wave > 0 {
			r.Wave = place / j.Wave
		}
		runs = append(runs, r)
	}
	return runs
}

// P16.1, P16.3

func TestRunsAll(t *testing.T) {
	r := rand.New(rand.NewSource(1))
	for range 3000 {
		j := jobOf(t, []string{"a", "backup", "x/y"}[r.Intn(3)]+": * * * * *")
		j.Deadline = 60 + r.Intn(api.MaxDeadline-59)
		j.Jitter = r.Intn(min(j.Deadline, api.MaxJitter+1))
		j.Wave = r.Intn(6)
		version, occ := 1+r.Intn(1000), 60*(r.Intn(60000000)-30000000)
		var hosts []int
		for host := r.Intn(5); host < 65536 && len(hosts) < r.Intn(60); host += 1 + r.Intn(3000) {
			hosts = append(hosts, host)
		}
		kept := slices.Clone(hosts)
		l, e := Runs(j, version, occ, hosts)
		if e != api.OK || !slices.Equal(l, slowRuns(j, version, occ, hosts)) || !slices.Equal(hosts, kept) {
			t.Fatal(j, version, occ, hosts, l, e)
		}
		mustHold(t, j, l, hosts)
		other := slices.Clone(l)
		if again, _ := Runs(j, version, occ, hosts); !slices.Equal(again, other) {
			t.Fatal("another answer", again, other)
		}
	}
}

// mustHold: what P16.3 says is so.
func mustHold(t *testing.T, j api.Job, l []api.Run, hosts []int) {
	t.Helper()
	got := hostsOf(l)
	slices.Sort(got)
	if !slices.Equal(got, hosts) {
		t.Fatal("hosts", got, hosts)
	}
	in := map[int]int{}
	for i, run := range l {
		in[run.Wave]++
		if i > 0 && run.Wave < l[i-1].Wave {
			t.Fatal("waves", l)
		}
		if run.At < run.Key.Occ || run.At >= run.Key.Occ+j.Deadline || run.Until != run.Key.Occ+j.Deadline {
			t.Fatal("times", j, run)
		}
		if !wire.May(api.Message{Kind: api.MsgDispatch, Key: run.Key, Version: run.Version, At: run.At, Until: run.Until}) {
			t.Fatal("it may not be dispatched", run)
		}
		if place, ok := Find(l, run.Key.Host); place != i || !ok {
			t.Fatal("Find", i, place, ok)
		}
	}
	waves := Waves(l)
	if len(in) != waves {
		t.Fatal("Waves", waves, in)
	}
	for wave := range waves {
		if j.Wave > 0 && (in[wave] > j.Wave || in[wave] < j.Wave && wave != waves-1) {
			t.Fatal("wave", wave, in, j.Wave)
		}
	}
}

// R3

func TestRunsAreNew(t *testing.T) {
	j := jobOf(t, "a: * * * * *; select=b=c,d in (e,f); wave=2")
	room := append(upTo(6), 77, 78)
	a, _ := Runs(j, 1, 0, room[:6])
	b, _ := Runs(j, 1, 0, room[:6])
	for i := range a[:cap(a)] {
		a[:cap(a)][i] = api.Run{Wave: 99}
	}
	want := slowRuns(j, 1, 0, upTo(6))
	if !slices.Equal(b, want) || !slices.Equal(room, append(upTo(6), 77, 78)) {
		t.Error(b, room)
	}
	clear(room)
	if !slices.Equal(b, want) || !job.Same(j, jobOf(t, "a: * * * * *; select=b=c,d in (e,f); wave=2")) {
		t.Error(b, j)
	}
}

// P16.2

func runsIn(waves ...int) []api.Run {
	var l []api.Run
	for i, wave := range waves {
		l = append(l, api.Run{Key: api.Key{Host: i}, Wave: wave})
	}
	return l
}

func TestWaves(t *testing.T) {
	for _, one := range []struct {
		waves []int
		want  int
	}{
		{nil, 0}, {[]int{0}, 1}, {[]int{0, 0, 0}, 1}, {[]int{0, 1, 2}, 3}, {[]int{2, 1, 0}, 3}, {[]int{0, 9, 3}, 10}, {[]int{4, 4}, 5},
		{[]int{-1}, 0}, {[]int{-5, -3}, -2}, {[]int{-1, 0}, 1}, {[]int{math.MinInt, 65535}, 65536}, {[]int{math.MaxInt - 1}, math.MaxInt},
	} {
		if got := Waves(runsIn(one.waves...)); got != one.want {
			t.Error(one, got)
		}
	}
	if got := Waves([]api.Run{}); got != 0 {
		t.Error(got)
	}
}

func TestFind(t *testing.T) {
	l := []api.Run{
		{Key: api.Key{Host: 5}}, {Key: api.Key{Host: 3, Job: "a"}}, {Key: api.Key{Host: 3, Job: "b"}},
		{Key: api.Key{Host: -1}}, {Key: api.Key{Host: 0}}, {Key: api.Key{Host: 5}}, {Key: api.Key{Host: math.MaxInt}},
	}
	for host, want := range map[int]int{5: 0, 3: 1, -1: 3, 0: 4, math.MaxInt: 6} {
		if place, ok := Find(l, host); place != want || !ok {
			t.Error(host, place, ok)
		}
	}
	for _, host := range []int{1, 4, -2, 65535, math.MinInt} {
		if place, ok := Find(l, host); place != 0 || ok {
			t.Error(host, place, ok)
		}
	}
	for _, l := range [][]api.Run{nil, {}} {
		if place, ok := Find(l, 0); place != 0 || ok {
			t.Error(place, ok)
		}
	}
}
