package exec

import (
	"cmp"
	"fmt"
	"math"
	"math/rand"
	"slices"
	"strings"
	"testing"

	"reveille/api"
)

func wants(t *testing.T, name string, got, want api.Errno) {
	t.Helper()
	if got != want {
		t.Errorf("%s: %d, not %d", name, got, want)
	}
}

func fresh(t *testing.T, slots int) *Exec {
	t.Helper()
	x, e := New(slots)
	if e != api.OK || x == nil {
		t.Fatal("New", e)
	}
	return x
}

func key(host int) api.Key { return api.Key{Job: "a", Occ: 60, Host: host} }

// going is runs by their hosts and ends, one behind the other.
func going(l ...int) []api.Going {
	var all []api.Going
	for i := 0; i < len(l); i += 2 {
		all = append(all, api.Going{Key: key(l[i]), Until: l[i+1]})
	}
	return all
}

// with is one of runs that were started in order at the least time.
func with(t *testing.T, slots int, runs []api.Going) *Exec {
	t.Helper()
	x := fresh(t, slots)
	for _, g := range runs {
		wants(t, "Start", x.Start(g.Key, g.Until, math.MinInt), api.OK)
	}
	return x
}

// mustHave: these runs go on, in order, and so many more may.
func mustHave(t *testing.T, name string, x *Exec, free int, want ...api.Going) {
	t.Helper()
	if got := x.All(); !slices.Equal(got, want) {
		t.Error(name, "All", got, "not", want)
	}
	if x.Free() != free {
		t.Error(name, "Free", x.Free(), "not", free)
	}
	for _, g := range want {
		if got, ok := x.Get(g.Key); !ok || got != g {
			t.Error(name, "Get", got, ok, g)
		}
	}
	until := 0
	if len(want) > 0 {
		until = want[0].Until
	}
	if at, ok := x.Next(); at != until || ok != (len(want) > 0) {
		t.Error(name, "Next", at, ok)
	}
}

// P20.1

func TestNew(t *testing.T) {
	for _, slots := range []int{0, -1, 65537, math.MinInt, math.MaxInt} {
		x, e := New(slots)
		if wants(t, "New", e, api.ErrArg); x != nil {
			t.Error(slots)
		}
	}
	for _, slots := range []int{1, 2, 65536} {
		mustHave(t, "New", fresh(t, slots), slots)
	}
}

func TestStart(t *testing.T) {
	// A key, an end may be any.
	x := fresh(t, 9)
	want := []api.Going{
		{Key: api.Key{}, Until: math.MinInt + 1}, {Key: api.Key{Job: "A b", Occ: 1, Host: -1}, Until: -1}, {Key: api.Key{Job: strings.Repeat("a", 999)}},
		{Key: key(1), Until: 1}, {Key: api.Key{Occ: math.MinInt, Host: math.MaxInt}, Until: math.MaxInt},
	}
	for i := range want {
		g := want[i*2%len(want)]
		wants(t, "Start", x.Start(g.Key, g.Until, g.Until-1), api.OK)
	}
	mustHave(t, "started", x, 4, want...)
}

func TestStartOrder(t *testing.T) {
	x := with(t, 2, going(1, 50))
	for _, c := range []struct{ until, now int }{{0, 0}, {0, 1}, {-1, 0}, {math.MinInt, math.MinInt}, {math.MinInt, math.MaxInt}, {math.MaxInt, math.MaxInt}} {
		wants(t, "over", x.Start(key(2), c.until, c.now), api.ErrOrder)
		wants(t, "over, and there", x.Start(key(1), c.until, c.now), api.ErrOrder)
	}
	mustHave(t, "refused", x, 1, going(1, 50)...)
	for i, c := range []struct{ until, now int }{{1, 0}, {0, -1}, {math.MaxInt, math.MinInt}, {math.MaxInt, math.MaxInt - 1}, {math.MinInt + 1, math.MinInt}} {
		wants(t, "not over", fresh(t, 1).Start(key(i), c.until, c.now), api.OK)
	}
}

func TestStartTwice(t *testing.T) {
	x := with(t, 2, going(1, 50))
	wants(t, "there", x.Start(key(1), 60, 0), api.ErrTwice)
	mustHave(t, "refused", x, 1, going(1, 50)...)
	wants(t, "Start", x.Start(key(2), 60, 0), api.OK)
	wants(t, "there, and full", x.Start(key(2), 60, 0), api.ErrTwice)
	for i, other := range []api.Key{{Job: "b", Occ: 60, Host: 1}, {Job: "a", Occ: 0, Host: 1}, {Job: "a", Occ: 60, Host: 2}} {
		wants(t, "another one", with(t, 2, going(1, 50)).Start(other, i+1, 0), api.OK)
	}
	// One that goes on no more may begin again.
	wants(t, "Finish", x.Finish(key(1)), api.OK)
	wants(t, "Start", x.Start(key(1), 60, 0), api.OK)
	mustHave(t, "again", x, 0, going(2, 60, 1, 60)...)
	x.Kill(60)
	wants(t, "Start", x.Start(key(1), 70, 60), api.OK)
	mustHave(t, "again", x, 1, going(1, 70)...)
}

func TestStartFull(t *testing.T) {
	for _, slots := range []int{1, 2, 7, 65536} {
		x := fresh(t, slots)
		for i := range slots {
			wants(t, "Start", x.Start(key(i), 10+i, 0), api.OK)
		}
		for range 2 {
			wants(t, "one more", x.Start(key(-1), 10, 0), api.ErrFull)
			wants(t, "one more, and over", x.Start(key(-1), 0, 0), api.ErrOrder)
			wants(t, "there", x.Start(key(0), 10, 0), api.ErrTwice)
		}
		if _, ok := x.Get(key(-1)); ok || x.Free() != 0 {
			t.Error(slots, x.Free())
		}
		wants(t, "Finish", x.Finish(key(slots-1)), api.OK)
		wants(t, "one more", x.Start(key(-1), 10, 0), api.OK)
		wants(t, "one more", x.Start(key(-2), 10, 0), api.ErrFull)
		killed := x.Kill(10)
		if len(killed) != min(slots, 2) || x.Free() != len(killed) {
			t.Error(slots, killed)
		}
		for i := range killed {
			wants(t, "one more", x.Start(key(-3-i), 10, 0), api.OK)
		}
		wants(t, "one more", x.Start(key(-9), 10, 0), api.ErrFull)
	}
}

func TestFinish(t *testing.T) {
	runs := going(1, 50, 2, 40, 3, 60, 4, 40, 5, 60)
	order := going(2, 40, 4, 40, 1, 50, 3, 60, 5, 60)
	for i, g := range order {
		x := with(t, 5, runs)
		for _, other := range []api.Key{{}, key(6), key(0), {Job: "a", Host: 1}, {Job: "b", Occ: 60, Host: 1}} {
			wants(t, "not there", x.Finish(other), api.ErrNone)
		}
		mustHave(t, "refused", x, 0, order...)
		wants(t, "Finish", x.Finish(g.Key), api.OK)
		wants(t, "again", x.Finish(g.Key), api.ErrNone)
		if got, ok := x.Get(g.Key); ok || got != (api.Going{}) {
			t.Error(g, got)
		}
		mustHave(t, "finished", x, 1, slices.Delete(slices.Clone(order), i, i+1)...)
		// Started again, it is the last one of its time.
		wants(t, "Start", x.Start(g.Key, 40, 0), api.OK)
		killed := x.Kill(40)
		if last := killed[len(killed)-1]; last != (api.Going{Key: g.Key, Until: 40}) {
			t.Error(g, killed)
		}
	}
}

func TestKill(t *testing.T) {
	runs := going(1, 50, 2, 40, 3, 60, 4, 40, 5, 60, 6, math.MaxInt, 7, -5)
	order := going(7, -5, 2, 40, 4, 40, 1, 50, 3, 60, 5, 60, 6, math.MaxInt)
	for _, c := range []struct{ now, n int }{
		{math.MinInt, 0}, {-6, 0}, {-5, 1}, {0, 1}, {39, 1}, {40, 3}, {41, 3}, {49, 3}, {50, 4}, {59, 4}, {60, 6}, {math.MaxInt - 1, 6}, {math.MaxInt, 7},
	} {
		x := with(t, 9, runs)
		if killed := x.Kill(c.now); !slices.Equal(killed, order[:c.n]) {
			t.Error(c.now, killed)
		}
		mustHave(t, fmt.Sprint("killed at ", c.now), x, 2+c.n, order[c.n:]...)
		for _, g := range order[:c.n] {
			wants(t, "killed", x.Finish(g.Key), api.ErrNone)
		}
		if killed := x.Kill(c.now); len(killed) != 0 {
			t.Error(c.now, "again", killed)
		}
	}
	if killed := fresh(t, 1).Kill(math.MaxInt); len(killed) != 0 {
		t.Error("of none", killed)
	}
}

// P20.2

func TestGetNone(t *testing.T) {
	x := with(t, 3, going(1, 50))
	for _, k := range []api.Key{{}, key(0), {Job: "a", Host: 1}, {Job: "b", Occ: 60, Host: 1}} {
		if g, ok := x.Get(k); ok || g != (api.Going{}) {
			t.Error(k, g)
		}
	}
}

// TestAnswersAreNew: who changes an answer changes no runs.
func TestAnswersAreNew(t *testing.T) {
	x := with(t, 2, going(1, 50, 2, 60))
	one, other := x.All(), x.All()
	one[0], one[1] = api.Going{}, api.Going{}
	_ = append(one[:1], api.Going{}, api.Going{})
	if !slices.Equal(other, going(1, 50, 2, 60)) {
		t.Error("shared", other)
	}
	mustHave(t, "changed from outside", x, 0, going(1, 50, 2, 60)...)
	killed := x.Kill(50)
	_ = append(killed, api.Going{})
	mustHave(t, "changed from outside", x, 1, going(2, 60)...)
}

func TestClosed(t *testing.T) {
	for _, x := range []*Exec{nil, {}} {
		wants(t, "Start", x.Start(key(1), 9, 0), api.ErrClosed)
		wants(t, "Start", x.Start(key(1), 0, 0), api.ErrClosed)
		wants(t, "Finish", x.Finish(key(1)), api.ErrClosed)
		g, isGoing := x.Get(key(1))
		at, isNext := x.Next()
		if g != (api.Going{}) || isGoing || at != 0 || isNext || len(x.Kill(math.MaxInt)) != 0 || len(x.All()) != 0 || x.Free() != 0 {
			t.Error("not closed")
		}
	}
}

// TestExample is the chapter's.
func TestExample(t *testing.T) {
	x := fresh(t, 1)
	a, b := api.Key{Job: "a"}, api.Key{Job: "b"}
	wants(t, "Start", x.Start(a, 9, 0), api.OK)
	wants(t, "Start", x.Start(b, 9, 0), api.ErrFull)
	if killed := x.Kill(9); !slices.Equal(killed, []api.Going{{Key: a, Until: 9}}) {
		t.Error(killed)
	}
}

// The slow one goes by the chapter's words: runs in the order in which they were started.
type slowExec struct {
	slots int
	runs  []api.Going
}

func (x *slowExec) all() []api.Going {
	l := slices.Clone(x.runs)
	slices.SortStableFunc(l, func(a, b api.Going) int { return cmp.Compare(a.Until, b.Until) })
	return l
}

func (x *slowExec) find(k api.Key) int {
	return slices.IndexFunc(x.runs, func(g api.Going) bool { return g.Key == k })
}

func (x *slowExec) start(k api.Key, until, now int) api.Errno {
	switch {
	case until <= now:
		return api.ErrOrder
	case x.find(k) >= 0:
		return api.ErrTwice
	case len(x.runs) == x.slots:
		return api.ErrFull
	}
	x.runs = append(x.runs, api.Going{Key: k, Until: until})
	return api.OK
}

func (x *slowExec) finish(k api.Key) api.Errno {
	i := x.find(k)
	if i < 0 {
		return api.ErrNone
	}
	x.runs = slices.Delete(x.runs, i, i+1)
	return api.OK
}

func (x *slowExec) kill(now int) []api.Going {
	over := func(g api.Going) bool { return g.Until <= now }
	var killed []api.Going
	for _, g := range x.all() {
		if over(g) {
			killed = append(killed, g)
		}
	}
	x.runs = slices.DeleteFunc(x.runs, over)
	return killed
}

// P20.3: counted besides: as many were started as were finished, were killed, or go on.
func TestAgainstSlow(t *testing.T) {
	for seed := range int64(200) {
		r := rand.New(rand.NewSource(seed))
		slots := 1 + r.Intn(12)
		x, slow := fresh(t, slots), &slowExec{slots: slots}
		left := map[api.Key]int{}
		for now := range 300 {
			k := key(r.Intn(16))
			switch n := r.Intn(10); {
			case n < 6:
				until := now + r.Intn(20) - 1
				e := x.Start(k, until, now)
				if wants(t, "Start", e, slow.start(k, until, now)); e == api.OK {
					left[k]++
				}
			case n < 8:
				e := x.Finish(k)
				if wants(t, "Finish", e, slow.finish(k)); e == api.OK {
					left[k]--
				}
			default:
				killed := x.Kill(now)
				if want := slow.kill(now); !slices.Equal(killed, want) {
					t.Error("Kill", killed, "not", want)
				}
				for _, g := range killed {
					left[g.Key]--
				}
			}
			all := slow.all()
			mustHave(t, "going on", x, slots-len(all), all...)
			for k, n := range left {
				if slow.find(k) < 0 && n != 0 || slow.find(k) >= 0 && n != 1 {
					t.Error(k, n)
				}
			}
			if t.Failed() {
				t.Fatal(seed, now)
			}
		}
	}
}
