package ledger

import (
	"bytes"
	"math"
	"slices"
	"strings"
	"testing"

	"reveille/api"
	"reveille/store"
	"reveille/wal"
)

const (
	mostHeld   = 512
	first, end = -62135596800, 253402300799
	size       = 4096 // of a segment, where it does not matter
	room       = 1 << 20
)

func wants(t *testing.T, name string, got, want api.Errno) {
	t.Helper()
	if got != want {
		t.Errorf("%s: %d, not %d", name, got, want)
	}
}

func disk(t *testing.T, room int) *store.Store {
	t.Helper()
	s, e := store.New(room)
	if e != api.OK {
		t.Fatal("a store", e)
	}
	return s
}

func opened(t *testing.T, s *store.Store) *Ledger {
	t.Helper()
	l, e := Open(s, size)
	if e != api.OK || l == nil {
		t.Fatal("Open", e)
	}
	return l
}

func fresh(t *testing.T) (*Ledger, *store.Store) {
	t.Helper()
	s := disk(t, room)
	return opened(t, s), s
}

func key(job string, occ, host int) api.Key { return api.Key{Job: job, Occ: occ, Host: host} }

// keysThatMayNot is keys that may not be.
func keysThatMayNot() []api.Key {
	return []api.Key{
		{}, key("", 0, 0), key("A b", 0, 0), key(strings.Repeat("a", 33), 0, 0), key("a", 1, 0), key("a", -59, 0),
		key("a", first-60, 0), key("a", end+1, 0), key("a", math.MinInt, 0), key("a", 0, -1), key("a", 0, 65536), key("a", 0, math.MaxInt),
	}
}

// said is the state and the records that a disk has.
func said(t *testing.T, s *store.Store) ([]byte, [][]byte) {
	t.Helper()
	_, found, e := wal.Open(s.Fork(), "ledger", size)
	if e != api.OK {
		t.Fatal("the log", e)
	}
	return found.State, found.Records
}

// mustHave: a ledger has these held runs, in order, and this watermark.
func mustHave(t *testing.T, name string, l *Ledger, mark int, want ...api.Held) {
	t.Helper()
	var owed []api.Held
	for _, h := range want {
		if h.Outcome != 0 && !h.Thanked {
			owed = append(owed, h)
		}
		if got, ok := l.Get(h.Key); !ok || got != h {
			t.Error(name, "Get", got, ok, h)
		}
	}
	if got := l.All(); !slices.Equal(got, want) {
		t.Error(name, "All", got, "not", want)
	}
	if got := l.Owed(); !slices.Equal(got, owed) {
		t.Error(name, "Owed", got, "not", owed)
	}
	if l.Mark() != mark {
		t.Error(name, "Mark", l.Mark(), "not", mark)
	}
}

// allSure: is each byte of a disk sure?
func allSure(s *store.Store) bool {
	return !slices.ContainsFunc(s.List(), func(f api.Stored) bool { return f.Sure < len(f.Bytes) })
}

// P19.2: Begin

func TestBegin(t *testing.T) {
	l, s := fresh(t)
	a, b := key("a", 60, 5), key("a-b", end-59, 65535)
	wants(t, "Begin", l.Begin(a, 120), api.OK)
	if !allSure(s) {
		t.Error("not sure")
	}
	wants(t, "Begin", l.Begin(b, end), api.OK)
	mustHave(t, "begun", l, first, api.Held{Key: a, Until: 120}, api.Held{Key: b, Until: end})
	_, records := said(t, s)
	if want := []byte{2, 1, 'a', 0x78, 0x0A, 0xF0, 1}; len(records) != 2 || !bytes.Equal(records[0], want) || l.Records() != 2 {
		t.Errorf("% x", records)
	}
}

func TestBeginMayNot(t *testing.T) {
	l, s := fresh(t)
	before := s.List()
	for _, k := range keysThatMayNot() {
		wants(t, "a key", l.Begin(k, 0), api.ErrArg)
	}
	for _, until := range []int{first - 1, end + 1, math.MinInt, math.MaxInt} {
		wants(t, "no time", l.Begin(key("a", 0, 0), until), api.ErrArg)
	}
	mustHave(t, "refused", l, first)
	if l.Records() != 0 || len(s.List()) != len(before) {
		t.Error("written", l.Records())
	}
	// What is a time is all that is asked of it.
	for i, until := range []int{first, -1, 0, 59, end} {
		wants(t, "a time", l.Begin(key("a", 60, i), until), api.OK)
	}
	wants(t, "the first one", l.Begin(key(strings.Repeat("a", 32), first, 0), 0), api.OK)
}

func TestBeginOrder(t *testing.T) {
	l, _ := fresh(t)
	wants(t, "Begin", l.Begin(key("a", 60, 0), 100), api.OK)
	wants(t, "Forget", l.Forget(121), api.OK)
	for _, occ := range []int{120, 60, 0, -60, first} {
		wants(t, "ahead of the watermark", l.Begin(key("b", occ, 0), 1000), api.ErrOrder)
	}
	wants(t, "held, and ahead of the watermark", l.Begin(key("a", 60, 0), 1000), api.ErrOrder)
	wants(t, "no key, and ahead of the watermark", l.Begin(key("a", 61, 0), 1000), api.ErrArg)
	wants(t, "no time, and ahead of the watermark", l.Begin(key("a", 60, 0), end+1), api.ErrArg)
	wants(t, "behind the watermark", l.Begin(key("b", 180, 0), 1000), api.OK)
	wants(t, "Forget", l.Forget(240), api.OK)
	wants(t, "at the watermark", l.Begin(key("b", 240, 0), 0), api.OK)
}

func TestBeginTwice(t *testing.T) {
	l, _ := fresh(t)
	k := key("a", 60, 1)
	wants(t, "Begin", l.Begin(k, 100), api.OK)
	wants(t, "going on", l.Begin(k, 200), api.ErrTwice)
	wants(t, "no time", l.Begin(k, end+1), api.ErrArg)
	wants(t, "End", l.End(k, api.Good), api.OK)
	wants(t, "ended", l.Begin(k, 200), api.ErrTwice)
	wants(t, "Thank", l.Thank(k), api.OK)
	wants(t, "thanked", l.Begin(k, 200), api.ErrTwice)
	mustHave(t, "refused", l, first, api.Held{Key: k, Until: 100, Outcome: api.Good, Thanked: true})
	for _, other := range []api.Key{key("b", 60, 1), key("a", 0, 1), key("a", 60, 2)} {
		wants(t, "another one", l.Begin(other, 200), api.OK)
	}
}

func TestBeginFull(t *testing.T) {
	l, s := fresh(t)
	for i := range mostHeld {
		wants(t, "Begin", l.Begin(key("a", 60*i, 0), 0), api.OK)
	}
	more := key("b", 0, 0)
	wants(t, "one more", l.Begin(more, 0), api.ErrFull)
	wants(t, "one that is held", l.Begin(key("a", 0, 0), 0), api.ErrTwice)
	wants(t, "no key", l.Begin(key("b", 1, 0), 0), api.ErrArg)
	if l.Records() != mostHeld || len(l.All()) != mostHeld {
		t.Error(l.Records(), len(l.All()))
	}
	// Neither an Outcome nor thanks make room; forgetting does.
	wants(t, "End", l.End(key("a", 0, 0), api.Bad), api.OK)
	wants(t, "Thank", l.Thank(key("a", 0, 0)), api.OK)
	wants(t, "one more", l.Begin(key("b", 60, 0), 0), api.ErrFull)
	wants(t, "Forget", l.Forget(60), api.OK)
	wants(t, "ahead of the watermark", l.Begin(more, 0), api.ErrOrder)
	wants(t, "one more", l.Begin(key("b", 60, 0), 0), api.OK)
	wants(t, "one more", l.Begin(key("c", 60, 0), 0), api.ErrFull)
	for range 2 {
		l = opened(t, s)
		wants(t, "one more, opened anew", l.Begin(key("c", 60, 0), 0), api.ErrFull)
		wants(t, "Compact", l.Compact(), api.OK)
	}
}

// P19.2: End

func TestEnd(t *testing.T) {
	for outcome := api.Good; outcome <= api.Interrupted; outcome++ {
		l, s := fresh(t)
		k := key("a", 60, 5)
		wants(t, "not held", l.End(k, outcome), api.ErrNone)
		wants(t, "Begin", l.Begin(k, 120), api.OK)
		wants(t, "Thank, but not held", l.Thank(key("b", 60, 5)), api.ErrNone)
		wants(t, "End", l.End(k, outcome), api.OK)
		if !allSure(s) {
			t.Error("not sure")
		}
		_, records := said(t, s)
		if want := []byte{4, 1, 'a', 0x78, 0x0A, byte(2 * outcome)}; len(records) != 2 || !bytes.Equal(records[1], want) {
			t.Errorf("% x", records)
		}
		for other := api.Good; other <= api.Interrupted; other++ {
			wants(t, "ended", l.End(k, other), api.ErrTwice)
		}
		mustHave(t, "ended", l, first, api.Held{Key: k, Until: 120, Outcome: outcome})
	}
}

func TestEndMayNot(t *testing.T) {
	l, _ := fresh(t)
	k := key("a", 60, 5)
	wants(t, "Begin", l.Begin(k, 120), api.OK)
	for _, outcome := range []int{0, 5, -1, math.MinInt, math.MaxInt} {
		wants(t, "no outcome", l.End(k, outcome), api.ErrArg)
		wants(t, "no outcome, and not held", l.End(key("b", 60, 5), outcome), api.ErrArg)
	}
	for _, other := range append(keysThatMayNot(), key("a", 60, 4), key("a", 0, 5), key("b", 60, 5)) {
		wants(t, "not held", l.End(other, api.Good), api.ErrNone)
	}
	mustHave(t, "refused", l, first, api.Held{Key: k, Until: 120})
	if l.Records() != 1 {
		t.Error(l.Records())
	}
	wants(t, "End", l.End(k, api.Good), api.OK)
	wants(t, "no outcome, and ended", l.End(k, 0), api.ErrArg)
}

// P19.2: Thank

func TestThank(t *testing.T) {
	l, s := fresh(t)
	k := key("a", 60, 5)
	wants(t, "not held", l.Thank(k), api.ErrNone)
	wants(t, "Begin", l.Begin(k, 120), api.OK)
	wants(t, "going on", l.Thank(k), api.ErrOrder)
	wants(t, "End", l.End(k, api.Killed), api.OK)
	for _, other := range append(keysThatMayNot(), key("a", 60, 4), key("a", 0, 5), key("b", 60, 5)) {
		wants(t, "not held", l.Thank(other), api.ErrNone)
	}
	if l.Records() != 2 {
		t.Error(l.Records())
	}
	wants(t, "Thank", l.Thank(k), api.OK)
	if allSure(s) {
		t.Error("there was a Sync")
	}
	_, records := said(t, s)
	if want := []byte{6, 1, 'a', 0x78, 0x0A}; len(records) != 3 || !bytes.Equal(records[2], want) {
		t.Errorf("% x", records)
	}
	before := s.List()
	wants(t, "again", l.Thank(k), api.OK)
	if got := s.List(); l.Records() != 3 || !bytes.Equal(got[0].Bytes, before[0].Bytes) {
		t.Error("again: something was written", l.Records())
	}
	mustHave(t, "thanked", l, first, api.Held{Key: k, Until: 120, Outcome: api.Killed, Thanked: true})
	// A crash may lose it; the next thing that is sure makes it sure.
	other := s.Fork()
	wants(t, "a crash", other.Crash(nil), api.OK)
	mustHave(t, "behind the crash", opened(t, other), first, api.Held{Key: k, Until: 120, Outcome: api.Killed})
	wants(t, "Begin", l.Begin(key("b", 60, 5), 120), api.OK)
	wants(t, "a crash", s.Crash(nil), api.OK)
	mustHave(t, "behind the crash", opened(t, s), first,
		api.Held{Key: k, Until: 120, Outcome: api.Killed, Thanked: true}, api.Held{Key: key("b", 60, 5), Until: 120, Outcome: api.Interrupted})
}

// P19.3: Forget

func TestForget(t *testing.T) {
	l, s := fresh(t)
	outcomes := []int{0, api.Good, api.Bad}
	for i, occ := range []int{0, 60, 120} {
		for host, outcome := range outcomes {
			wants(t, "Begin", l.Begin(key("a", occ, host), i), api.OK)
			if outcome != 0 {
				wants(t, "End", l.End(key("a", occ, host), outcome), api.OK)
			}
		}
		wants(t, "Thank", l.Thank(key("a", occ, 2)), api.OK)
	}
	wants(t, "Forget", l.Forget(61), api.OK)
	if !allSure(s) {
		t.Error("not sure")
	}
	_, records := said(t, s)
	if last := records[len(records)-1]; !bytes.Equal(last, []byte{8, 0x7A}) || len(records) != l.Records() {
		t.Errorf("% x", last)
	}
	want := []api.Held{
		{Key: key("a", 0, 0), Until: 0}, {Key: key("a", 0, 1), Until: 0, Outcome: api.Good},
		{Key: key("a", 60, 0), Until: 1}, {Key: key("a", 60, 1), Until: 1, Outcome: api.Good},
		{Key: key("a", 120, 0), Until: 2}, {Key: key("a", 120, 1), Until: 2, Outcome: api.Good}, {Key: key("a", 120, 2), Until: 2, Outcome: api.Bad, Thanked: true},
	}
	mustHave(t, "forgotten", l, 61, want...)
	n := l.Records()
	for _, mark := range []int{61, 60, 0, -1, first} {
		wants(t, "not above the watermark", l.Forget(mark), api.OK)
	}
	for _, mark := range []int{first - 1, end + 1, math.MinInt, math.MaxInt} {
		wants(t, "no time", l.Forget(mark), api.ErrArg)
	}
	if l.Records() != n {
		t.Error("something was written")
	}
	mustHave(t, "forgotten", l, 61, want...)
	// The occurrence at the watermark is not ahead of it.
	wants(t, "Forget", l.Forget(120), api.OK)
	mustHave(t, "forgotten", l, 120, want...)
	wants(t, "Forget", l.Forget(121), api.OK)
	mustHave(t, "forgotten", l, 121, want[:6]...)
}

// TestForgetThankedLater: what is thanked behind a Forget is held till the next one.
func TestForgetThankedLater(t *testing.T) {
	l, s := fresh(t)
	k := key("a", 60, 5)
	wants(t, "Begin", l.Begin(k, 120), api.OK)
	wants(t, "End", l.End(k, api.Good), api.OK)
	wants(t, "Forget", l.Forget(120), api.OK)
	wants(t, "Thank", l.Thank(k), api.OK)
	wants(t, "not above the watermark", l.Forget(120), api.OK)
	held := api.Held{Key: k, Until: 120, Outcome: api.Good, Thanked: true}
	mustHave(t, "thanked later", l, 120, held)
	for range 2 {
		l = opened(t, s)
		mustHave(t, "thanked later, opened anew", l, 120, held)
		wants(t, "Compact", l.Compact(), api.OK)
	}
	wants(t, "Forget", l.Forget(121), api.OK)
	mustHave(t, "forgotten", l, 121)
	wants(t, "forgotten, begun anew", l.Begin(k, 120), api.ErrOrder)
	wants(t, "forgotten, ended", l.End(k, api.Good), api.ErrNone)
	wants(t, "forgotten, thanked", l.Thank(k), api.ErrNone)
}

func TestForgetBounds(t *testing.T) {
	l, s := fresh(t)
	wants(t, "not above the watermark", l.Forget(first), api.OK)
	if l.Records() != 0 {
		t.Error(l.Records())
	}
	wants(t, "Forget", l.Forget(first+1), api.OK)
	wants(t, "Forget", l.Forget(end), api.OK)
	mustHave(t, "the last time", l, end)
	mustHave(t, "the last time", opened(t, s), end)
	wants(t, "ahead of the watermark", l.Begin(key("a", end-59, 0), 0), api.ErrOrder)
}

// P19.3: Compact

func TestCompact(t *testing.T) {
	l, s := fresh(t)
	wants(t, "Begin", l.Begin(key("b", 60, 5), 120), api.OK)
	wants(t, "Begin", l.Begin(key("a", 60, 5), 121), api.OK)
	wants(t, "Begin", l.Begin(key("c", 0, 0), -1), api.OK)
	wants(t, "End", l.End(key("a", 60, 5), api.Bad), api.OK)
	wants(t, "Thank", l.Thank(key("a", 60, 5)), api.OK)
	wants(t, "Forget", l.Forget(1), api.OK)
	want := []api.Held{
		{Key: key("c", 0, 0), Until: -1}, {Key: key("a", 60, 5), Until: 121, Outcome: api.Bad, Thanked: true}, {Key: key("b", 60, 5), Until: 120},
	}
	wants(t, "Compact", l.Compact(), api.OK)
	mustHave(t, "compacted", l, 1, want...)
	if files := s.List(); len(files) != 1 || files[0].Name != "ledger.snap" || !allSure(s) || l.Records() != 6 {
		t.Error(files, l.Records())
	}
	state, records := said(t, s)
	bytesOf := []byte{2, 3, 1, 'c', 0, 0, 1, 0, 0, 1, 'a', 0x78, 0x0A, 0xF2, 1, 4, 1, 1, 'b', 0x78, 0x0A, 0xF0, 1, 0, 0}
	if !bytes.Equal(state, bytesOf) || len(records) != 0 {
		t.Errorf("% x", state)
	}
	wants(t, "End", l.End(key("b", 60, 5), api.Good), api.OK)
	want[2].Outcome = api.Good
	mustHave(t, "behind it", l, 1, want...)
	want[0].Outcome = api.Interrupted
	l = opened(t, s)
	mustHave(t, "opened anew", l, 1, want...)
	if l.Records() != 8 {
		t.Error(l.Records())
	}
}

func TestCompactEmpty(t *testing.T) {
	l, s := fresh(t)
	for range 2 {
		wants(t, "Compact", l.Compact(), api.OK)
		mustHave(t, "empty", l, first)
		l = opened(t, s)
		mustHave(t, "empty, opened anew", l, first)
		if l.Records() != 0 {
			t.Error(l.Records())
		}
	}
	wants(t, "Begin", l.Begin(key("a", first, 0), 0), api.OK)
}

// TestCompactMost: as much as is held at most has room in a state.
func TestCompactMost(t *testing.T) {
	l, s := fresh(t)
	for i := range mostHeld {
		k := key(strings.Repeat("z", 32), end-59-60*i, 65535)
		wants(t, "Begin", l.Begin(k, first), api.OK)
		wants(t, "End", l.End(k, api.Interrupted), api.OK)
		wants(t, "Thank", l.Thank(k), api.OK)
	}
	wants(t, "Compact", l.Compact(), api.OK)
	all := l.All()
	if got := opened(t, s).All(); len(all) != mostHeld || !slices.Equal(got, all) {
		t.Error(len(all), len(got))
	}
}

// P19.4

func TestOrder(t *testing.T) {
	want := []api.Held{
		{Key: key("z", first, 9)}, {Key: key("a", -60, 0)}, {Key: key("Z", 0, 3)}, {Key: key("a", 0, 2)}, {Key: key("a", 0, 10)}, {Key: key("a-", 0, 0)}, {Key: key("a0", 0, 0)},
		{Key: key("ab", 0, 1)}, {Key: key("b", 0, 0)}, {Key: key("a", 60, 0)}, {Key: key("b", 60, 0)}, {Key: key("a", 600, 0)}, {Key: key("a", end-59, 0)},
	}
	l, s := fresh(t)
	for i := range want {
		h := want[i*5%len(want)]
		wants(t, "Begin", l.Begin(h.Key, 0), api.OK)
	}
	mustHave(t, "in order", l, first, want...)
	for i := range want {
		h := &want[i*7%len(want)]
		if i%3 == 0 {
			continue
		}
		wants(t, "End", l.End(h.Key, api.Bad), api.OK)
		h.Outcome = api.Bad
		if i%3 == 1 {
			wants(t, "Thank", l.Thank(h.Key), api.OK)
			h.Thanked = true
		}
		mustHave(t, "in order", l, first, want...)
	}
	for i, h := range want {
		if h.Outcome == 0 {
			want[i].Outcome = api.Interrupted
		}
	}
	mustHave(t, "opened anew", opened(t, s), first, want...)
}

func TestGetNone(t *testing.T) {
	l, _ := fresh(t)
	wants(t, "Begin", l.Begin(key("a", 60, 5), 120), api.OK)
	for _, k := range append(keysThatMayNot(), key("a", 60, 4), key("a", 0, 5), key("b", 60, 5)) {
		if h, ok := l.Get(k); ok || h != (api.Held{}) {
			t.Error(k, h)
		}
	}
}

// TestAnswersAreNew: who changes an answer changes no ledger.
func TestAnswersAreNew(t *testing.T) {
	l, _ := fresh(t)
	a, b := api.Held{Key: key("a", 60, 5), Outcome: api.Good}, api.Held{Key: key("b", 60, 5), Outcome: api.Bad}
	for _, h := range []api.Held{a, b} {
		wants(t, "Begin", l.Begin(h.Key, h.Until), api.OK)
		wants(t, "End", l.End(h.Key, h.Outcome), api.OK)
	}
	for _, list := range [][]api.Held{l.All(), l.Owed()} {
		other := l.All()
		list[0], list[1] = api.Held{}, api.Held{}
		_ = append(list[:1], api.Held{}, api.Held{})
		if !slices.Equal(other, []api.Held{a, b}) {
			t.Error("shared", other)
		}
	}
	mustHave(t, "changed from outside", l, first, a, b)
}

func TestClosed(t *testing.T) {
	for _, l := range []*Ledger{nil, {}} {
		k := key("a", 60, 5)
		wants(t, "Begin", l.Begin(k, 0), api.ErrClosed)
		wants(t, "Begin", l.Begin(api.Key{}, math.MaxInt), api.ErrClosed)
		wants(t, "End", l.End(k, api.Good), api.ErrClosed)
		wants(t, "End", l.End(k, 0), api.ErrClosed)
		wants(t, "Thank", l.Thank(k), api.ErrClosed)
		wants(t, "Forget", l.Forget(60), api.ErrClosed)
		wants(t, "Forget", l.Forget(math.MinInt), api.ErrClosed)
		wants(t, "Compact", l.Compact(), api.ErrClosed)
		h, ok := l.Get(k)
		if ok || h != (api.Held{}) || len(l.All()) != 0 || len(l.Owed()) != 0 || l.Mark() != 0 || l.Records() != 0 {
			t.Error("not closed")
		}
	}
}
