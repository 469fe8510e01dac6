package wave

import (
	"math"
	"math/big"
	"math/rand"
	"slices"
	"testing"

	"reveille/api"
)

// The slow one goes by the chapter's words, one run at a time.

func slowFailed(s api.Step) bool { return s.State == api.StepDone && s.Outcome != api.Good }

func slowEnded(l []api.Step, wave int) bool {
	for _, s := range l {
		if s.Run.Wave == wave && (s.State == api.StepWaiting || s.State == api.StepSent) {
			return false
		}
	}
	return true
}

func slowBad(j api.Job, l []api.Step, wave int) bool {
	var failed, n int64
	for _, s := range l {
		if s.Run.Wave != wave {
			continue
		}
		n++
		if slowFailed(s) {
			failed++
		}
	}
	most := new(big.Int).Mul(big.NewInt(int64(j.Fail)), big.NewInt(n))
	return big.NewInt(100*failed).Cmp(most) > 0
}

func slowOpen(j api.Job, l []api.Step, wave int) bool {
	for _, s := range l {
		if s.Run.Wave < wave && (!slowEnded(l, s.Run.Wave) || slowBad(j, l, s.Run.Wave)) {
			return false
		}
	}
	return true
}

func slowHalted(j api.Job, l []api.Step, wave int) bool {
	for _, s := range l {
		if s.Run.Wave < wave && slowEnded(l, s.Run.Wave) && slowBad(j, l, s.Run.Wave) {
			return true
		}
	}
	return false
}

func slowAdvise(j api.Job, l []api.Step, now int) api.Advice {
	var a api.Advice
	busy := 0
	for _, s := range l {
		if s.State == api.StepSent {
			busy++
		}
	}
	for i, s := range l {
		if s.State != api.StepWaiting {
			continue
		}
		if s.Run.Until <= now {
			a.Skip = append(a.Skip, api.Skip{At: i, Reason: api.ReasonLate})
			continue
		}
		if slowHalted(j, l, s.Run.Wave) {
			a.Skip = append(a.Skip, api.Skip{At: i, Reason: api.ReasonHalted})
			continue
		}
		if slowOpen(j, l, s.Run.Wave) && s.Run.At <= now && (j.Parallel <= 0 || busy < j.Parallel) {
			a.Start = append(a.Start, i)
			busy++
		}
	}
	return a
}

// oneOf is any of these.
func oneOf(r *rand.Rand, l ...int) int { return l[r.Intn(len(l))] }

// randomJob is any one, also one that may not be.
func randomJob(r *rand.Rand) api.Job {
	j := api.Job{Fail: oneOf(r, 0, 10, 33, 34, 50, 66, 99, 100, 100, r.Intn(101)), Parallel: r.Intn(5)}
	if r.Intn(10) == 0 {
		j.Fail = oneOf(r, -1, -100, 101, math.MaxInt, math.MinInt, math.MaxInt/3, math.MinInt/7, r.Int())
	}
	if r.Intn(10) == 0 {
		j.Parallel = oneOf(r, -1, math.MinInt, math.MaxInt, 65536)
	}
	return j
}

func randomSteps(r *rand.Rand) []api.Step {
	waves, letters := 1+r.Intn(5), []string{"w", "wsg", "gw", "gb", "wsgbkix", "ggggbw", "ggggggs"}[r.Intn(7)]
	l := make([]api.Step, r.Intn(20))
	for i := range l {
		letter := letters[r.Intn(len(letters))]
		// Waves ahead have gone further.
		wave := r.Intn(waves)
		if wave == 0 && r.Intn(3) > 0 {
			letter = "gggbx"[r.Intn(5)]
		}
		l[i] = stepOf(letter)
		l[i].Run.Wave = wave
		if r.Intn(50) == 0 {
			l[i].Run.Wave = oneOf(r, extremes...)
		}
		l[i].Run.At, l[i].Run.Until = now+r.Intn(7)-3, now+r.Intn(8)-1
		if r.Intn(40) == 0 {
			l[i].State, l[i].Outcome = r.Intn(8)-1, r.Intn(7)-1
		}
	}
	return l
}

// P17.1, P17.2

func TestAsTheSlowOne(t *testing.T) {
	r := rand.New(rand.NewSource(1))
	starts, lates, halts := 0, 0, 0
	for range 60000 {
		j, l := randomJob(r), randomSteps(r)
		kept := slices.Clone(l)
		got, want := Advise(j, l, now), slowAdvise(j, l, now)
		if !same(got, want) {
			t.Fatal(j, l, got, want)
		}
		for _, wave := range append([]int{2, 3, 4, 5}, extremes...) {
			if bad, open := Bad(j, l, wave), Open(j, l, wave); bad != slowBad(j, l, wave) || open != slowOpen(j, l, wave) {
				t.Fatal(j, l, wave, bad, open)
			}
		}
		if !slices.Equal(l, kept) {
			t.Fatal("changed", l, kept)
		}
		starts += len(got.Start)
		for _, s := range got.Skip {
			if s.Reason == api.ReasonLate {
				lates++
			} else {
				halts++
			}
		}
	}
	if min(starts, lates, halts) < 5000 {
		t.Error("too few", starts, lates, halts)
	}
}

// P17.3

// occurrence is one whose advice is followed, second by second.
type occurrence struct {
	j   api.Job
	l   []api.Step
	now int
}

func randomOccurrence(r *rand.Rand) occurrence {
	o := occurrence{j: api.Job{Fail: oneOf(r, 0, 0, 30, 100), Parallel: r.Intn(5)}}
	perWave, n := 1+r.Intn(6), 1+r.Intn(25)
	for i := range n {
		o.l = append(o.l, api.Step{State: api.StepWaiting, Run: api.Run{At: r.Intn(15), Until: 15 + r.Intn(60), Wave: i / perWave}})
	}
	return o
}

// mustBegin: may this run begin now?
func (o occurrence) mustBegin(t *testing.T, place int) {
	t.Helper()
	run := o.l[place].Run
	if o.l[place].State != api.StepWaiting || o.now < run.At || o.now >= run.Until {
		t.Fatal("its time", o.now, o.l[place])
	}
	for _, s := range o.l {
		if s.Run.Wave < run.Wave && (s.State == api.StepWaiting || s.State == api.StepSent) {
			t.Fatal("one ahead goes on", s, run)
		}
	}
}

// follow does what is advised.
func (o occurrence) follow(t *testing.T) {
	t.Helper()
	a := Advise(o.j, o.l, o.now)
	for _, place := range a.Start {
		o.mustBegin(t, place)
	}
	for _, place := range a.Start {
		o.l[place].State = api.StepSent
	}
	for _, s := range a.Skip {
		if o.l[s.At].State != api.StepWaiting {
			t.Fatal("left out", o.l[s.At])
		}
		o.l[s.At].State, o.l[s.At].Reason = api.StepSkipped, s.Reason
	}
	_, sent, _, _, _ := Count(o.l)
	if o.j.Parallel > 0 && sent > o.j.Parallel {
		t.Fatal("too many at once", sent, o.j)
	}
}

// endSome lets some of the runs that were sent end.
func (o occurrence) endSome(r *rand.Rand) {
	for i := range o.l {
		if o.l[i].State == api.StepSent && r.Intn(4) == 0 {
			o.l[i].State, o.l[i].Outcome = api.StepDone, oneOf(r, api.Good, api.Good, api.Good, api.Bad, api.Killed, api.Interrupted)
		}
	}
}

func TestFollowed(t *testing.T) {
	r := rand.New(rand.NewSource(2))
	for range 3000 {
		o := randomOccurrence(r)
		for ; !Over(o.l); o.now++ {
			if o.now > 1000 {
				t.Fatal("it does not end", o)
			}
			o.follow(t)
			o.endSome(r)
		}
		waiting, sent, good, failed, skipped := Count(o.l)
		if waiting != 0 || sent != 0 || good+failed+skipped != len(o.l) {
			t.Fatal(o, waiting, sent, good, failed, skipped)
		}
	}
}

// Where nothing is late, and none fails, each one begins.
func TestAllBegin(t *testing.T) {
	r := rand.New(rand.NewSource(3))
	for range 500 {
		o := randomOccurrence(r)
		for i := range o.l {
			o.l[i].Run.Until = 1000000
		}
		for ; !Over(o.l); o.now++ {
			o.follow(t)
			for i := range o.l {
				if o.l[i].State == api.StepSent {
					o.l[i].State, o.l[i].Outcome = api.StepDone, api.Good
				}
			}
		}
		if _, _, good, _, _ := Count(o.l); good != len(o.l) {
			t.Fatal(o, good)
		}
	}
}

func TestManyRuns(t *testing.T) {
	for _, waves := range []int{1, 2, 64, 4096, 65536} {
		var l []api.Step
		for wave := range waves {
			l = append(l, ofWave(wave, 65536/waves, 'w')...)
		}
		if got := Advise(api.Job{}, l, now); len(got.Start) != 65536/waves || len(got.Skip) != 0 {
			t.Error(waves, len(got.Start), len(got.Skip))
		}
		if !Open(api.Job{}, l, 0) || Open(api.Job{}, l, 1) || Over(l) {
			t.Error(waves)
		}
	}
}
