package queue

import (
	"iter"
	"math"
	"math/rand"
	"slices"
	"testing"

	"reveille/api"
)

const most = 65536

func wants(t *testing.T, name string, got, want api.Errno) {
	t.Helper()
	if got != want {
		t.Errorf("%s: %d, not %d", name, got, want)
	}
}

// with is a queue of timers that were set in order: of each its Id and time.
func with(t *testing.T, timers ...api.Timer) *Queue {
	t.Helper()
	q := New()
	for _, one := range timers {
		wants(t, "Set", q.Set(one.Id, one.At), api.OK)
	}
	return q
}

// popped is the Ids of all that are popped at a time.
func popped(q *Queue, now int) []int {
	var ids []int
	for {
		one, ok := q.Pop(now)
		if !ok {
			return ids
		}
		ids = append(ids, one.Id)
	}
}

// idsOf is the Ids that are gone over.
func idsOf(all iter.Seq[api.Timer]) []int {
	var ids []int
	for one := range all {
		ids = append(ids, one.Id)
	}
	return ids
}

// mustBeEmpty: there is no timer.
func mustBeEmpty(t *testing.T, name string, q *Queue) {
	t.Helper()
	next, isNext := q.Next()
	one, isOne := q.Pop(math.MaxInt)
	at, isThere := q.When(0)
	if isNext || isOne || isThere || next != (api.Timer{}) || one != (api.Timer{}) || at != 0 {
		t.Error(name, "there is something", next, one, at)
	}
	if q.Len() != 0 || q.Drop(0) || len(idsOf(q.All())) != 0 {
		t.Error(name, q.Len())
	}
}

// P10.1

func TestNew(t *testing.T) {
	mustBeEmpty(t, "New", New())
	mustBeEmpty(t, "another one", New().Fork())
}

func TestSetAndWhen(t *testing.T) {
	numbers := []int{0, 1, -1, 7, math.MaxInt, math.MinInt, math.MaxInt - 1, math.MinInt + 1}
	for _, at := range numbers {
		q := New()
		for i, id := range numbers {
			if got, ok := q.When(id); ok || got != 0 {
				t.Error(id, "ahead of Set", got)
			}
			wants(t, "Set", q.Set(id, at), api.OK)
			if got, ok := q.When(id); !ok || got != at || q.Len() != i+1 {
				t.Error(id, at, got, ok, q.Len())
			}
		}
		if got := popped(q, at); !slices.Equal(got, numbers) {
			t.Error(at, got)
		}
		mustBeEmpty(t, "popped", q)
	}
}

func TestSetAnew(t *testing.T) {
	q := with(t, api.Timer{Id: 1, At: 5}, api.Timer{Id: 2, At: 6}, api.Timer{Id: 3, At: 7})
	for _, c := range []struct {
		id, at int
		want   []int
	}{
		{2, 4, []int{2, 1, 3}},
		{2, 8, []int{1, 3, 2}},
		{1, 7, []int{3, 1, 2}},
		// One that is set anew, to the time that it has, is set then.
		{3, 7, []int{1, 3, 2}},
		{1, 7, []int{3, 1, 2}},
		{1, 8, []int{3, 2, 1}},
		{2, 8, []int{3, 1, 2}},
		{3, 8, []int{1, 2, 3}},
		{2, math.MinInt, []int{2, 1, 3}},
		{2, math.MaxInt, []int{1, 3, 2}},
	} {
		wants(t, "Set", q.Set(c.id, c.at), api.OK)
		if at, ok := q.When(c.id); !ok || at != c.at || q.Len() != 3 {
			t.Error(c.id, c.at, at, ok, q.Len())
		}
		if got := idsOf(q.All()); !slices.Equal(got, c.want) {
			t.Error(c.id, c.at, got, c.want)
		}
	}
}

func TestDrop(t *testing.T) {
	for _, id := range []int{1, 2, 3, 4, 5} {
		q := with(t, api.Timer{Id: 1, At: 5}, api.Timer{Id: 2, At: 3}, api.Timer{Id: 3, At: 9}, api.Timer{Id: 4, At: 3}, api.Timer{Id: 5, At: 1})
		want := slices.DeleteFunc([]int{5, 2, 4, 1, 3}, func(other int) bool { return other == id })
		if !q.Drop(id) || q.Drop(id) || q.Drop(0) || q.Len() != 4 {
			t.Error(id, q.Len())
		}
		if at, ok := q.When(id); ok || at != 0 {
			t.Error(id, at)
		}
		if got := idsOf(q.All()); !slices.Equal(got, want) {
			t.Error(id, got, want)
		}
		// Set again, it is the last one of its time.
		wants(t, "Set", q.Set(id, 3), api.OK)
		if got := popped(q, 3); got[len(got)-1] != id {
			t.Error(id, got)
		}
	}
}

func TestFull(t *testing.T) {
	q := New()
	for i := range most {
		wants(t, "Set", q.Set(i, -i), api.OK)
	}
	for _, id := range []int{most, -1, math.MaxInt} {
		wants(t, "one more", q.Set(id, math.MinInt), api.ErrFull)
		if at, ok := q.When(id); ok || at != 0 || q.Len() != most {
			t.Error(id, at, q.Len())
		}
	}
	if one, ok := q.Next(); !ok || one.Id != most-1 {
		t.Error("changed by what was refused", one)
	}
	// In the place of one of its Id there is room.
	wants(t, "anew", q.Set(0, math.MinInt), api.OK)
	if one, ok := q.Next(); !ok || one != (api.Timer{At: math.MinInt, Id: 0}) || q.Len() != most {
		t.Error("anew", one, q.Len())
	}
	wants(t, "one more", q.Set(most, 0), api.ErrFull)
	wants(t, "one more in another one", q.Fork().Set(most, 0), api.ErrFull)
	if !q.Drop(7) {
		t.Error("Drop")
	}
	wants(t, "behind a Drop", q.Set(most, 0), api.OK)
	wants(t, "one more", q.Set(7, 0), api.ErrFull)
	if _, ok := q.Pop(0); !ok {
		t.Error("Pop")
	}
	wants(t, "behind a Pop", q.Set(7, 0), api.OK)
	wants(t, "one more", q.Set(most+1, 0), api.ErrFull)
	if got := popped(q, math.MaxInt); len(got) != most {
		t.Error(len(got))
	}
	mustBeEmpty(t, "popped", q)
}

// P10.2

func TestNext(t *testing.T) {
	q := with(t, api.Timer{Id: 1, At: math.MaxInt})
	for _, one := range []api.Timer{{Id: 1, At: math.MaxInt}, {Id: 2, At: 9}, {Id: 3, At: 8}, {Id: 4, At: 0}, {Id: 5, At: -1}, {Id: 6, At: math.MinInt}} {
		wants(t, "Set", q.Set(one.Id, one.At), api.OK)
		for range 2 {
			if got, ok := q.Next(); !ok || got != one || q.Len() != one.Id {
				t.Error(got, ok, one, q.Len())
			}
		}
	}
}

func TestPop(t *testing.T) {
	for _, at := range []int{math.MinInt + 1, -1, 0, 1, 60, math.MaxInt} {
		q := with(t, api.Timer{Id: 3, At: at})
		for _, now := range []int{at - 1, math.MinInt} {
			if one, ok := q.Pop(now); ok || one != (api.Timer{}) || q.Len() != 1 {
				t.Error(at, "too early", now, one)
			}
		}
		if one, ok := q.Pop(at); !ok || one != (api.Timer{At: at, Id: 3}) || q.Len() != 0 {
			t.Error(at, one, ok)
		}
		mustBeEmpty(t, "popped", q)
	}
	q := with(t, api.Timer{Id: 1, At: math.MinInt})
	if one, ok := q.Pop(math.MinInt); !ok || one.Id != 1 {
		t.Error("the least time", one)
	}
}

func TestPopUpToNow(t *testing.T) {
	q := with(t, api.Timer{Id: 1, At: 30}, api.Timer{Id: 2, At: 10}, api.Timer{Id: 3, At: 20}, api.Timer{Id: 4, At: 10}, api.Timer{Id: 5, At: 31})
	for now, want := range [][]int{9: nil, 10: {2, 4}, 19: nil, 20: {3}, 30: {1}, 31: {5}, 32: nil} {
		if got := popped(q, now); !slices.Equal(got, want) {
			t.Error(now, got, want)
		}
	}
}

func TestAll(t *testing.T) {
	q := with(t, api.Timer{Id: 1, At: 9}, api.Timer{Id: 2, At: 5}, api.Timer{Id: 3, At: 5}, api.Timer{Id: 4, At: 1})
	all := q.All()
	for range 2 {
		if got := slices.Collect(all); !slices.Equal(got, []api.Timer{{At: 1, Id: 4}, {At: 5, Id: 2}, {At: 5, Id: 3}, {At: 9, Id: 1}}) {
			t.Error(got)
		}
	}
	for stop := range 4 {
		n := 0
		for range all {
			if n++; n > stop {
				break
			}
		}
		if n != stop+1 {
			t.Error("stopped", n, stop)
		}
	}
	if q.Len() != 4 {
		t.Error("taken away", q.Len())
	}
	// It is as the queue is when it is ranged over.
	wants(t, "Set", q.Set(5, 0), api.OK)
	q.Drop(2)
	if got := idsOf(all); !slices.Equal(got, []int{5, 4, 3, 1}) {
		t.Error(got)
	}
	popped(q, math.MaxInt)
	if got := idsOf(all); len(got) != 0 {
		t.Error(got)
	}
}

// One look goes on within another one.
func TestAllWithinAll(t *testing.T) {
	q := with(t, api.Timer{Id: 1, At: 9}, api.Timer{Id: 2, At: 5}, api.Timer{Id: 3, At: 5})
	var ids []int
	for one := range q.All() {
		ids = append(ids, one.Id)
		ids = append(ids, idsOf(q.All())...)
	}
	if want := []int{2, 2, 3, 1, 3, 2, 3, 1, 1, 2, 3, 1}; !slices.Equal(ids, want) {
		t.Error(ids, want)
	}
	if got := popped(q, 9); !slices.Equal(got, []int{2, 3, 1}) {
		t.Error(got)
	}
}

func TestFork(t *testing.T) {
	q := with(t, api.Timer{Id: 1, At: 9}, api.Timer{Id: 2, At: 5}, api.Timer{Id: 3, At: 5})
	other := q.Fork()
	wants(t, "Set in the one", q.Set(2, 5), api.OK)
	wants(t, "Set in the other", other.Set(4, 5), api.OK)
	if !other.Drop(1) || q.Len() != 3 || other.Len() != 3 {
		t.Error(q.Len(), other.Len())
	}
	if at, ok := q.When(1); !ok || at != 9 {
		t.Error("dropped from both", at)
	}
	if _, ok := q.When(4); ok {
		t.Error("set in both")
	}
	if got := popped(q, 9); !slices.Equal(got, []int{3, 2, 1}) {
		t.Error("the one", got)
	}
	if got := popped(other, 9); !slices.Equal(got, []int{2, 3, 4}) {
		t.Error("the other", got)
	}
}

func TestQueueThatIsNone(t *testing.T) {
	for _, q := range []*Queue{nil, {}} {
		wants(t, "Set", q.Set(1, 1), api.ErrClosed)
		mustBeEmpty(t, "none", q)
		if q.Fork() != nil {
			t.Error("Fork")
		}
	}
}

// The slow queue is a list, in the order in which its timers were set.

type slowQueue []api.Timer

func (q slowQueue) place(id int) int {
	return slices.IndexFunc(q, func(one api.Timer) bool { return one.Id == id })
}

func (q *slowQueue) drop(id int) bool {
	i := q.place(id)
	if i >= 0 {
		*q = slices.Delete(*q, i, i+1)
	}
	return i >= 0
}

func (q *slowQueue) set(id, at int) {
	q.drop(id)
	*q = append(*q, api.Timer{At: at, Id: id})
}

func (q slowQueue) next() (api.Timer, bool) {
	var next api.Timer
	for i, one := range q {
		if i == 0 || one.At < next.At {
			next = one
		}
	}
	return next, len(q) > 0
}

func (q *slowQueue) pop(now int) (api.Timer, bool) {
	next, ok := q.next()
	if !ok || next.At > now {
		return api.Timer{}, false
	}
	q.drop(next.Id)
	return next, true
}

func (q slowQueue) all() []api.Timer {
	left := slices.Clone(q)
	var all []api.Timer
	for len(left) > 0 {
		next, _ := left.pop(math.MaxInt)
		all = append(all, next)
	}
	return all
}

// P10.1 to P10.3

func TestAsTheSlowOne(t *testing.T) {
	for seed := range int64(40) {
		r := rand.New(rand.NewSource(seed))
		ids, times := 1+r.Intn(40), 1+r.Intn(30)
		q, slow := New(), slowQueue{}
		for i := range 1000 {
			id, at := r.Intn(ids), r.Intn(times)-times/2
			switch r.Intn(7) {
			case 0:
				if got, want := q.Drop(id), slow.drop(id); got != want {
					t.Fatal(seed, i, "Drop", got, want)
				}
			case 1:
				got, ok := q.Pop(at)
				if want, wantOk := slow.pop(at); got != want || ok != wantOk {
					t.Fatal(seed, i, "Pop", got, ok, want, wantOk)
				}
			case 2:
				q = q.Fork()
			default:
				wants(t, "Set", q.Set(id, at), api.OK)
				slow.set(id, at)
			}
			next, isNext := q.Next()
			want, isWanted := slow.next()
			if next != want || isNext != isWanted || q.Len() != len(slow) {
				t.Fatal(seed, i, "Next", next, want, q.Len(), len(slow))
			}
			when, isThere := q.When(id)
			if place := slow.place(id); isThere != (place >= 0) || isThere && when != slow[place].At || !isThere && when != 0 {
				t.Fatal(seed, i, "When", id, when, isThere)
			}
			if got := slices.Collect(q.All()); !slices.Equal(got, slow.all()) {
				t.Fatal(seed, i, "All", got, slow.all())
			}
		}
	}
}

// P10.3

func TestPoppedByRisingTimes(t *testing.T) {
	r := rand.New(rand.NewSource(1))
	for range 50 {
		q, turns := New(), map[int]int{}
		for turn := range 2000 {
			id := r.Intn(1200)
			wants(t, "Set", q.Set(id, r.Intn(50)), api.OK)
			turns[id] = turn
		}
		last, n := api.Timer{At: -1}, 0
		for {
			one, ok := q.Pop(50)
			if !ok {
				break
			}
			if one.At < last.At || one.At == last.At && turns[one.Id] < turns[last.Id] {
				t.Fatal(last, turns[last.Id], one, turns[one.Id])
			}
			last = one
			n++
		}
		if n != len(turns) || q.Len() != 0 {
			t.Error(n, len(turns), q.Len())
		}
	}
}

// The chapter's example.

func TestExample(t *testing.T) {
	q := with(t, api.Timer{Id: 1, At: 9}, api.Timer{Id: 2, At: 5}, api.Timer{Id: 3, At: 5})
	if got := popped(q, 9); !slices.Equal(got, []int{2, 3, 1}) {
		t.Error(got)
	}
}
