package wave

import (
	"math"
	"slices"
	"strconv"
	"strings"
	"testing"

	"reveille/api"
)

// now is when the tests' runs may begin; till is when they may no more.
const (
	now  = 1000
	till = 2000
)

// stepOf is a run that is as far as a letter says: waiting, sent, good, bad, killed, interrupted or left out (x).
func stepOf(letter byte) api.Step {
	s := api.Step{Run: api.Run{At: now, Until: till}}
	switch letter {
	case 'w':
		s.State = api.StepWaiting
	case 's':
		s.State = api.StepSent
	case 'x':
		s.State, s.Reason = api.StepSkipped, api.ReasonLate
	default:
		s.State, s.Outcome = api.StepDone, strings.IndexByte("gbki", letter)+1
	}
	return s
}

// stepsOf is runs, of each its wave and a letter: "0w 0g 1s".
func stepsOf(t *testing.T, text string) []api.Step {
	t.Helper()
	var l []api.Step
	for i, word := range strings.Fields(text) {
		last := len(word) - 1
		if !strings.Contains("wsgbkix", word[last:]) {
			t.Fatal(word)
		}
		wave, e := strconv.Atoi(word[:last])
		if e != nil {
			t.Fatal(word)
		}
		s := stepOf(word[last])
		s.Run.Wave, s.Run.Key = wave, api.Key{Job: "a", Host: i}
		l = append(l, s)
	}
	return l
}

// ofWave is n runs of a wave, each as far as the letter says.
func ofWave(wave, n int, letter byte) []api.Step {
	l := make([]api.Step, n)
	for i := range l {
		l[i] = stepOf(letter)
		l[i].Run.Wave = wave
	}
	return l
}

// strange is runs whose states no run has.
func strange(wave int) []api.Step {
	var l []api.Step
	for _, state := range []int{0, -1, 5, math.MaxInt, math.MinInt} {
		for _, outcome := range []int{0, api.Good, api.Bad} {
			l = append(l, api.Step{Run: api.Run{Wave: wave, At: now, Until: till}, State: state, Outcome: outcome})
		}
	}
	return l
}

var extremes = []int{math.MinInt, math.MinInt + 1, -1, 0, 1, math.MaxInt - 1, math.MaxInt}

// P17.1: Count, Over

func TestCount(t *testing.T) {
	for _, one := range []struct {
		text string
		want [5]int
		over bool
	}{
		{"", [5]int{}, true},
		{"0w", [5]int{1}, false}, {"0s", [5]int{0, 1}, false}, {"0g", [5]int{0, 0, 1}, true}, {"0x", [5]int{4: 1}, true},
		{"0b", [5]int{3: 1}, true}, {"0k", [5]int{3: 1}, true}, {"0i", [5]int{3: 1}, true},
		{"0w 1w 0s 0w 2g 3b 1k 1i 0x 9x", [5]int{3, 1, 1, 3, 2}, false},
		{"0g 1b 2k 3i 4x", [5]int{0, 0, 1, 3, 1}, true},
		{"0g 1b 2k 3i 4x 7w", [5]int{1, 0, 1, 3, 1}, false}, {"7s 0g 1b 2k 3i 4x", [5]int{0, 1, 1, 3, 1}, false},
	} {
		l := stepsOf(t, one.text)
		waiting, sent, good, failed, skipped := Count(l)
		if got := [5]int{waiting, sent, good, failed, skipped}; got != one.want {
			t.Error(one.text, got)
		}
		if got := Over(l); got != one.over {
			t.Error(one.text, got)
		}
	}
	if waiting, sent, good, failed, skipped := Count([]api.Step{}); waiting+sent+good+failed+skipped != 0 || !Over([]api.Step{}) {
		t.Error("empty")
	}
}

func TestCountStrange(t *testing.T) {
	if waiting, sent, good, failed, skipped := Count(strange(0)); waiting != 0 || sent != 0 || good != 0 || failed != 0 || skipped != 0 || !Over(strange(0)) {
		t.Error("strange states", waiting, sent, good, failed, skipped)
	}
	// Any outcome of one that is done but Good is a failure; of others none is looked at.
	for _, outcome := range []int{0, -1, 5, math.MaxInt, math.MinInt} {
		if _, _, good, failed, _ := Count([]api.Step{{State: api.StepDone, Outcome: outcome}}); good != 0 || failed != 1 {
			t.Error(outcome, good, failed)
		}
	}
	for _, outcome := range []int{api.Good, api.Bad, api.Killed, api.Interrupted} {
		l := []api.Step{{State: api.StepWaiting, Outcome: outcome}, {State: api.StepSent, Outcome: outcome}, {State: api.StepSkipped, Outcome: outcome}}
		if waiting, sent, good, failed, skipped := Count(l); waiting != 1 || sent != 1 || good != 0 || failed != 0 || skipped != 1 {
			t.Error(outcome, waiting, sent, good, failed, skipped)
		}
	}
}

// P17.1: Bad

func TestBad(t *testing.T) {
	for _, one := range []struct {
		fail int
		text string
		want bool
	}{
		{0, "0g", false}, {0, "0b", true}, {0, "0k", true}, {0, "0i", true}, {0, "0x", false}, {0, "0w", false}, {0, "0s", false},
		{50, "0g 0b", false}, {49, "0g 0b", true}, {50, "0b 0b 0g", true},
		{33, "0g 0b 0g", true}, {34, "0g 0b 0g", false}, {66, "0b 0b 0g", true}, {67, "0b 0b 0g", false},
		{25, "0b 0w 0s 0x", false}, {24, "0b 0w 0s 0x", true},
		{100, "0b", false}, {100, "0b 0k 0i", false}, {99, "0b 0k 0i", true}, {99, "0b 0k 0g", false},
		// Runs of other waves are not its own.
		{0, "0g 1b", false}, {0, "1b -1b 0w", false}, {50, "0b 1g 1g 1g", true}, {50, "1b 0b 2b 0g", false},
		// It may go on.
		{0, "0b 0w", true}, {0, "0s 0b", true}, {49, "0b 0s", true}, {50, "0b 0s", false},
		// There are none.
		{0, "", false}, {0, "1b", false}, {-1, "", false}, {math.MinInt, "1b", false},
		// A job that may not be.
		{-1, "0g", true}, {-1, "0w", true}, {math.MinInt, "0g 0g", true}, {math.MinInt, "0x 0g 0w", true}, {math.MinInt + 1, "0s", true},
		{101, "0b 0b", false}, {math.MaxInt, "0b 0b", false}, {math.MaxInt, "0b 0b 0b", false}, {math.MaxInt/2 + 1, "0b 0b", false}, {math.MaxInt/100 + 1, "0b", false},
	} {
		if got := Bad(api.Job{Fail: one.fail}, stepsOf(t, one.text), 0); got != one.want {
			t.Error(one, got)
		}
	}
}

func TestBadOfAnyWave(t *testing.T) {
	for _, wave := range extremes {
		var l []api.Step
		for _, other := range extremes {
			letter := byte('g')
			if other == wave {
				letter = 'b'
			}
			l = append(l, ofWave(other, 3, letter)...)
		}
		for _, asked := range extremes {
			if got := Bad(api.Job{Fail: 99}, l, asked); got != (asked == wave) {
				t.Error(wave, asked, got)
			}
		}
	}
	// Runs of strange states are none that failed, but are of it.
	l := append(strange(3), ofWave(3, 15, 'b')...)
	if !Bad(api.Job{Fail: 49}, l, 3) || Bad(api.Job{Fail: 50}, l, 3) {
		t.Error("strange states")
	}
}

// Each share is reckoned exactly.
func TestBadAtEachShare(t *testing.T) {
	for _, n := range []int{1, 2, 3, 7, 10, 99, 100, 101, 150} {
		for failed := range n + 1 {
			l := append(ofWave(5, failed, 'k'), ofWave(5, n-failed, 'g')...)
			for fail := range 101 {
				if got := Bad(api.Job{Fail: fail}, l, 5); got != (100*failed > fail*n) {
					t.Fatal(n, failed, fail, got)
				}
			}
		}
	}
}

// P17.1: Open

func TestOpen(t *testing.T) {
	for _, one := range []struct {
		fail       int
		text       string
		wave       int
		want, next bool // of that wave, and of the one behind it
	}{
		{0, "", 0, true, true}, {0, "", 7, true, true}, {-1, "", 7, true, true},
		{0, "0w", 0, true, false}, {0, "0s", 0, true, false}, {0, "0g", 0, true, true}, {0, "0x", 0, true, true},
		{0, "0b", 0, true, false}, {0, "0k", 0, true, false}, {0, "0i", 0, true, false},
		{100, "0b", 0, true, true}, {100, "0b 0s", 0, true, false}, {50, "0b 0g", 0, true, true}, {49, "0b 0g", 0, true, false},
		{0, "0g 1w", 0, true, true}, {0, "0g 1w", 1, true, false}, {0, "0g 1g", 1, true, true}, {0, "0w 1g", 1, false, false}, {0, "0s 1g", 1, false, false},
		{0, "0g 1b 2w", 1, true, false}, {0, "0g 1b 2w", 2, false, false}, {0, "0b 1g 2g", 2, false, false},
		// What is behind it is not looked at.
		{0, "1w 2b", 0, true, true}, {0, "1s 1b", 0, true, true}, {0, "1s 1b", 1, true, false},
		// Nor is in which order they stand.
		{0, "2w 1w 0g", 1, true, false}, {0, "2w 1g 0g", 1, true, true}, {0, "2g 1g 0w", 1, false, false},
		// Waves without runs have ended.
		{0, "0g 5w", 3, true, true}, {0, "0g 5w", 4, true, true}, {0, "0g 5w", 5, true, false}, {0, "0w 5w", 3, false, false}, {-1, "5g", 4, true, true}, {-1, "5g", 5, true, false},
		{0, "-3w 0w", -3, true, false}, {0, "-3g 0w", -1, true, true}, {0, "-3w", 0, false, false}, {0, "-3w", -5, true, true},
		{math.MaxInt, "0b 0b", 0, true, true}, {math.MinInt, "0g 0g", 0, true, false},
	} {
		l := stepsOf(t, one.text)
		j := api.Job{Fail: one.fail}
		if got, next := Open(j, l, one.wave), Open(j, l, one.wave+1); got != one.want || next != one.next {
			t.Error(one, got, next)
		}
	}
}

func TestOpenOfAnyWave(t *testing.T) {
	for _, letter := range []byte("wsb") {
		for _, wave := range extremes {
			l := ofWave(wave, 1, letter)
			for _, asked := range extremes {
				if got := Open(api.Job{}, l, asked); got != (asked <= wave) {
					t.Error(string(letter), wave, asked, got)
				}
			}
		}
	}
	for _, asked := range extremes {
		if !Open(api.Job{Fail: 50}, strange(-2), asked) || Open(api.Job{Fail: -1}, strange(-2), asked) != (asked <= -2) {
			t.Error("strange states", asked)
		}
	}
}

// P17.2

// skips is the runs that are left out: those that are late, and those that are halted.
func skips(late, halted []int) []api.Skip {
	var l []api.Skip
	for _, place := range late {
		l = append(l, api.Skip{At: place, Reason: api.ReasonLate})
	}
	for _, place := range halted {
		l = append(l, api.Skip{At: place, Reason: api.ReasonHalted})
	}
	slices.SortFunc(l, func(a, b api.Skip) int { return a.At - b.At })
	return l
}

func same(a, b api.Advice) bool {
	return slices.Equal(a.Start, b.Start) && slices.Equal(a.Skip, b.Skip)
}

func TestAdvise(t *testing.T) {
	for _, one := range []struct {
		fail, parallel int
		text           string
		start, halted  []int
	}{
		{100, 0, "", nil, nil},
		{100, 0, "0w", []int{0}, nil}, {100, 0, "0s 0g 0b 0k 0i 0x", nil, nil},
		{100, 0, "0w 0s 0w 0g 0w", []int{0, 2, 4}, nil},
		// Waves go one by one.
		{100, 0, "0w 0w 1w 1w", []int{0, 1}, nil}, {100, 0, "0w 0s 1w 1w", []int{0}, nil}, {100, 0, "0g 0s 1w 1w", nil, nil},
		{100, 0, "0g 0g 1w 1w 2w", []int{2, 3}, nil}, {100, 0, "0g 0x 1w 1s 2w", []int{2}, nil}, {100, 0, "0b 0b 1w 2w", []int{2}, nil},
		{100, 0, "2w 1w 0w", []int{2}, nil}, {100, 0, "2w 1w 0g", []int{1}, nil}, {100, 0, "2w 1w 0g 1w", []int{1, 3}, nil},
		{100, 0, "0g 7w 9w", []int{1}, nil}, {100, 0, "-2w 0w", []int{0}, nil},
		// A bad one halts those behind it, when it has ended.
		{0, 0, "0b 0g 1w 1w 2w", nil, []int{2, 3, 4}}, {0, 0, "0b 0s 1w 1w", nil, nil}, {0, 0, "0b 0w 1w 1w", []int{1}, nil},
		{50, 0, "0b 0g 1w 1w 2w", []int{2, 3}, nil}, {49, 0, "0b 0g 1w 1w 2w", nil, []int{2, 3, 4}},
		{0, 0, "2w 1w 0b 0g", nil, []int{0, 1}}, {0, 0, "0g 1b 2w", nil, []int{2}}, {0, 0, "0x 1w 2w", []int{1}, nil},
		// Also where a wave between goes on, or one ahead.
		{0, 0, "0b 1s 1w 2w", nil, []int{2, 3}}, {0, 0, "0s 1b 2w", nil, []int{2}}, {0, 0, "0w 1b 2w", []int{0}, []int{2}},
		{0, 0, "0s 0b 1b 2w 1s", nil, nil}, {0, 0, "0b 0s 1k 2w 1g", nil, []int{3}},
		{-1, 0, "0g 1w", nil, []int{1}}, {-1, 0, "0w 1w", []int{0}, nil}, {math.MaxInt, 0, "0b 0b 1w", []int{2}, nil}, {math.MinInt, 0, "0g 0g 1w", nil, []int{2}},
		// Not too many at once.
		{100, 1, "0w 0w 0w", []int{0}, nil}, {100, 2, "0w 0w 0w", []int{0, 1}, nil}, {100, 3, "0w 0w 0w", []int{0, 1, 2}, nil}, {100, 4, "0w 0w 0w", []int{0, 1, 2}, nil},
		{100, 1, "0s 0w 0w", nil, nil}, {100, 1, "0w 0w 0s", nil, nil}, {100, 2, "0w 0s 0w", []int{0}, nil}, {100, 2, "0s 0s 0s 0w", nil, nil}, {100, 3, "0s 0w 0w 0s 0w", []int{1}, nil},
		{100, 1, "0g 0b 0x 0k 0w 0w", []int{4}, nil}, {100, 2, "0w 1s 2s", nil, nil}, {100, 3, "0w 0w 1s 2s", []int{0}, nil},
		{100, -1, "0w 0w 0s", []int{0, 1}, nil}, {100, math.MinInt, "0w 0w", []int{0, 1}, nil}, {100, math.MaxInt, "0w 0s 0w", []int{0, 2}, nil},
		{0, 1, "0s 1b 2w 2w", nil, []int{2, 3}},
	} {
		l := stepsOf(t, one.text)
		j := api.Job{Fail: one.fail, Parallel: one.parallel}
		want := api.Advice{Start: one.start, Skip: skips(nil, one.halted)}
		if got := Advise(j, l, now); !same(got, want) {
			t.Error(one, got)
		}
		// Behind the deadline all that wait are late, whatever else they are.
		var late []int
		for i, s := range l {
			if s.State == api.StepWaiting {
				late = append(late, i)
			}
		}
		if got := Advise(j, l, till); !same(got, api.Advice{Skip: skips(late, nil)}) {
			t.Error(one, "late", got)
		}
	}
}

func TestAdviseTimes(t *testing.T) {
	for _, one := range []struct {
		at, until, now int
		start, late    bool
	}{
		{1000, 2000, 999, false, false}, {1000, 2000, 1000, true, false}, {1000, 2000, 1001, true, false},
		{1000, 2000, 1999, true, false}, {1000, 2000, 2000, false, true}, {1000, 2000, 2001, false, true},
		{2000, 1000, 999, false, false}, {2000, 1000, 1000, false, true}, {2000, 1000, 2000, false, true}, {5, 5, 5, false, true},
		{math.MinInt, math.MaxInt, math.MinInt, true, false}, {math.MaxInt, math.MaxInt, math.MaxInt - 1, false, false}, {math.MaxInt, math.MaxInt, math.MaxInt, false, true},
		{math.MinInt, math.MinInt, math.MinInt, false, true}, {math.MinInt, math.MinInt + 1, math.MinInt, true, false}, {0, math.MinInt, math.MaxInt, false, true}, {math.MinInt, math.MaxInt, math.MaxInt - 1, true, false},
	} {
		run := api.Run{At: one.at, Until: one.until}
		var want api.Advice
		if one.start {
			want.Start = []int{0}
		}
		if one.late {
			want.Skip = skips([]int{0}, nil)
		}
		if got := Advise(api.Job{}, []api.Step{{Run: run, State: api.StepWaiting}}, one.now); !same(got, want) {
			t.Error(one, got)
		}
		for _, state := range []int{api.StepSent, api.StepDone, api.StepSkipped, 0, 5, -1} {
			if got := Advise(api.Job{}, []api.Step{{Run: run, State: state}}, one.now); !same(got, api.Advice{}) {
				t.Error(one, state, got)
			}
		}
	}
}

// at is a list in which one run has other times.
func at(l []api.Step, place, at, until int) []api.Step {
	l = slices.Clone(l)
	l[place].Run.At, l[place].Run.Until = at, until
	return l
}

func TestAdviseWhatComesFirst(t *testing.T) {
	// One that is late is not halted.
	l := at(stepsOf(t, "0b 1w 1w 1w"), 2, 0, now)
	if got := Advise(api.Job{}, l, now); !same(got, api.Advice{Skip: skips([]int{2}, []int{1, 3})}) {
		t.Error("late and halted", got)
	}
	// One that may not begin yet is halted all the same, and so is one for which there is no room.
	l = at(stepsOf(t, "0b 1w 1w 1s"), 2, now+1, till)
	if got := Advise(api.Job{Parallel: 1}, l, now); !same(got, api.Advice{Skip: skips(nil, []int{1, 2})}) {
		t.Error("halted ahead of its time", got)
	}
	// One of a wave that is shut is late all the same.
	l = at(stepsOf(t, "0s 1w 1w"), 1, 0, now)
	if got := Advise(api.Job{Fail: 100}, l, now); !same(got, api.Advice{Skip: skips([]int{1}, nil)}) {
		t.Error("late and shut", got)
	}
	// What is late, or ahead of its time, takes no room.
	l = at(at(stepsOf(t, "0w 0w 0w 0w"), 0, 0, now), 1, now+1, till)
	if got := Advise(api.Job{Parallel: 1}, l, now); !same(got, api.Advice{Start: []int{2}, Skip: skips([]int{0}, nil)}) {
		t.Error("room", got)
	}
}

// The advice goes by the runs as they are, not as they will be when it is followed.
func TestAdviseAsTheyAre(t *testing.T) {
	l := at(stepsOf(t, "0w 1w"), 0, 0, now)
	if got := Advise(api.Job{}, l, now); !same(got, api.Advice{Skip: skips([]int{0}, nil)}) {
		t.Error("the wave had not ended", got)
	}
	l[0].State = api.StepSkipped
	if got := Advise(api.Job{}, l, now); !same(got, api.Advice{Start: []int{1}}) {
		t.Error("the wave has ended", got)
	}
	l = at(stepsOf(t, "0b 0w 1w"), 1, 0, now)
	if got := Advise(api.Job{}, l, now); !same(got, api.Advice{Skip: skips([]int{1}, nil)}) {
		t.Error("the bad wave had not ended", got)
	}
}

func TestAdviseOfAnyWave(t *testing.T) {
	var l []api.Step
	for _, wave := range extremes {
		l = append(l, ofWave(wave, 1, 'w')...)
	}
	for i := range l {
		if got := Advise(api.Job{}, l, now); !same(got, api.Advice{Start: []int{i}}) {
			t.Error(i, got)
		}
		failed := slices.Clone(l)
		failed[i].State, failed[i].Outcome = api.StepDone, api.Bad
		var behind []int
		for place := i + 1; place < len(l); place++ {
			behind = append(behind, place)
		}
		if got := Advise(api.Job{}, failed, now); !same(got, api.Advice{Skip: skips(nil, behind)}) {
			t.Error(i, got)
		}
		l[i].State, l[i].Outcome = api.StepDone, api.Good
	}
	if got := Advise(api.Job{Fail: 50}, strange(1), now); !same(got, api.Advice{}) {
		t.Error("strange states", got)
	}
}

// R3

func TestAdviseIsNew(t *testing.T) {
	room := at(stepsOf(t, "0b 0g 1w 1w 1w 0w 0w"), 2, 0, now)
	kept := slices.Clone(room)
	j := api.Job{Fail: 50, Select: []api.Clause{{Kind: 1, Key: "a", Values: []string{"b"}}}}
	a, b := Advise(j, room[:5], now), Advise(j, room[:5], now)
	for i := range a.Start[:cap(a.Start)] {
		a.Start[:cap(a.Start)][i] = 99
	}
	for i := range a.Skip[:cap(a.Skip)] {
		a.Skip[:cap(a.Skip)][i] = api.Skip{At: 99, Reason: 99}
	}
	if want := (api.Advice{Start: []int{3, 4}, Skip: skips([]int{2}, nil)}); !same(b, want) || !slices.Equal(room, kept) {
		t.Error(b, room)
	}
	clear(room)
	if want := (api.Advice{Start: []int{3, 4}, Skip: skips([]int{2}, nil)}); !same(b, want) || j.Select[0].Values[0] != "b" {
		t.Error(b, j)
	}
}

// The chapter's example.

func TestExample(t *testing.T) {
	j := api.Job{Fail: 0}
	l := stepsOf(t, "0s 0s 1w 1w")
	if got := Advise(j, l, now); !same(got, api.Advice{}) {
		t.Error("both go on", got)
	}
	l[0].State, l[0].Outcome = api.StepDone, api.Bad
	if got := Advise(j, l, now); !same(got, api.Advice{}) || !Bad(j, l, 0) || Open(j, l, 1) {
		t.Error("one goes on", got)
	}
	l[1].State, l[1].Outcome = api.StepDone, api.Good
	if got := Advise(j, l, now); !same(got, api.Advice{Skip: skips(nil, []int{2, 3})}) {
		t.Error("it has ended", got)
	}
}
