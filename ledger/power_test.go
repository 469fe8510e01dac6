package ledger

import (
	"fmt"
	"math/rand"
	"slices"
	"testing"

	"reveille/api"
	"reveille/store"
)

// call is a call that writes.
type call struct {
	name  string
	do    func(l *Ledger) api.Errno
	steps int // how many calls of the store it makes
}

// The runs of someHeld, and one that is not held.
var endedKey, thankedKey, goingKey, unknownKey = key("a", 60, 1), key("a", 60, 2), key("a", 60, 3), key("a", 60, 4)

func someHeld(t *testing.T, s *store.Store) *Ledger {
	t.Helper()
	l := opened(t, s)
	for _, k := range []api.Key{endedKey, thankedKey, goingKey} {
		wants(t, "Begin", l.Begin(k, 0), api.OK)
	}
	wants(t, "End", l.End(endedKey, api.Good), api.OK)
	wants(t, "End", l.End(thankedKey, api.Bad), api.OK)
	wants(t, "Thank", l.Thank(thankedKey), api.OK)
	wants(t, "Forget", l.Forget(60), api.OK)
	return l
}

func wantSome() []api.Held {
	return []api.Held{{Key: endedKey, Outcome: api.Good}, {Key: thankedKey, Outcome: api.Bad, Thanked: true}, {Key: goingKey}}
}

func calls() []call {
	return []call{
		{"Begin", func(l *Ledger) api.Errno { return l.Begin(unknownKey, 0) }, 2},
		{"End", func(l *Ledger) api.Errno { return l.End(goingKey, api.Killed) }, 2},
		{"Thank", func(l *Ledger) api.Errno { return l.Thank(endedKey) }, 1},
		{"Forget", func(l *Ledger) api.Errno { return l.Forget(61) }, 2},
		// An Append, a Rename, and the segment is removed.
		{"Compact", (*Ledger).Compact, 3},
	}
}

// mustBeOff: each call that would write is refused, and the others answer as ever.
func mustBeOff(t *testing.T, name string, l *Ledger) {
	t.Helper()
	n := l.Records()
	for _, c := range calls() {
		wants(t, name+", then "+c.name, c.do(l), api.ErrOff)
	}
	mustAnswer(t, name, l)
	if l.Records() != n {
		t.Error(name, "Records", l.Records())
	}
	mustHave(t, name, l, 60, wantSome()...)
}

// mustAnswer: what is refused, or done, without a record, is so whether the log is of use or not.
func mustAnswer(t *testing.T, name string, l *Ledger) {
	t.Helper()
	wants(t, name+", no key", l.Begin(key("", 60, 0), 0), api.ErrArg)
	wants(t, name+", ahead of the watermark", l.Begin(key("a", 0, 0), 0), api.ErrOrder)
	wants(t, name+", held", l.Begin(goingKey, 0), api.ErrTwice)
	wants(t, name+", no outcome", l.End(goingKey, 0), api.ErrArg)
	wants(t, name+", not held", l.End(unknownKey, api.Good), api.ErrNone)
	wants(t, name+", ended", l.End(endedKey, api.Good), api.ErrTwice)
	wants(t, name+", not held", l.Thank(unknownKey), api.ErrNone)
	wants(t, name+", going on", l.Thank(goingKey), api.ErrOrder)
	wants(t, name+", thanked", l.Thank(thankedKey), api.OK)
	wants(t, name+", no time", l.Forget(end+1), api.ErrArg)
	wants(t, name+", not above the watermark", l.Forget(60), api.OK)
}

// P19.2, P19.3: what is refused

func TestOff(t *testing.T) {
	for _, c := range calls() {
		for n := range c.steps + 1 {
			name := fmt.Sprint(c.name, " behind ", n)
			s := disk(t, room)
			l := someHeld(t, s)
			before := l.Records()
			s.Stop(n)
			if n == c.steps {
				wants(t, name, c.do(l), api.OK)
				if !s.Off() {
					t.Error(name, "fewer steps")
				}
				continue
			}
			wants(t, name, c.do(l), api.ErrOff)
			// A record that was taken counts, though it was not done.
			if taken := n == 1 && c.name != "Compact"; (l.Records() == before+1) != taken {
				t.Error(name, l.Records())
			}
			mustBeOff(t, name, l)
			// Also where the power is on again.
			wants(t, "a crash", s.Crash(nil), api.OK)
			mustBeOff(t, name, l)
		}
	}
}

// TestFull: what is refused for want of room was not done, and may be done later.
func TestFull(t *testing.T) {
	for _, c := range calls() {
		s := disk(t, 600)
		l := someHeld(t, s)
		wants(t, "Append", s.Append("other", make([]byte, s.Room())), api.OK)
		before := l.Records()
		wants(t, c.name, c.do(l), api.ErrFull)
		mustHave(t, c.name, l, 60, wantSome()...)
		mustAnswer(t, c.name, l)
		if l.Records() != before {
			t.Error(c.name, l.Records())
		}
		wants(t, "Remove", s.Remove("other"), api.OK)
		if c.name == "Compact" {
			// Its log is of no more use.
			mustBeOff(t, c.name, l)
			continue
		}
		wants(t, c.name, c.do(l), api.OK)
	}
}

// TestFullOfFiles: a disk of as many files as may be has no room either.
func TestFullOfFiles(t *testing.T) {
	s := disk(t, room)
	for i := range 64 {
		wants(t, "Append", s.Append(fmt.Sprint("f", i), nil), api.OK)
	}
	l := opened(t, s)
	wants(t, "Begin", l.Begin(unknownKey, 0), api.ErrFull)
	wants(t, "Forget", l.Forget(0), api.ErrFull)
	mustHave(t, "no room for a file", l, first)
	wants(t, "Remove", s.Remove("f7"), api.OK)
	wants(t, "Begin", l.Begin(unknownKey, 0), api.OK)
}

// P19.5

// told is what was answered with OK, and what may be so besides.
type told struct {
	begun   map[api.Key]bool
	ended   map[api.Key]int
	perhaps map[api.Key][]int // outcomes that were refused as the power went
	forgot  int               // the greatest watermark that was tried
	marked  int               // the greatest one that was told
	thanked map[api.Key]bool  // thanked, or tried
}

func newTold() *told {
	return &told{begun: map[api.Key]bool{}, ended: map[api.Key]int{}, perhaps: map[api.Key][]int{}, thanked: map[api.Key]bool{}, forgot: first, marked: first}
}

// mustHold: what was told is so, behind a crash.
func (w *told) mustHold(t *testing.T, l *Ledger) {
	t.Helper()
	if l.Mark() < w.marked || l.Mark() > w.forgot {
		t.Error("Mark", l.Mark(), w.marked, w.forgot)
	}
	for k := range w.begun {
		h, held := l.Get(k)
		if e := l.Begin(k, 0); e != api.ErrTwice && e != api.ErrOrder {
			t.Error(k, "begun again", e)
		}
		if !held {
			if w.ended[k] == 0 && w.perhaps[k] == nil || !w.thanked[k] || k.Occ >= l.Mark() {
				t.Error(k, "vanished")
			}
			continue
		}
		switch outcome := w.ended[k]; {
		case outcome != 0 && h.Outcome != outcome:
			t.Error(k, h, "not", outcome)
		case outcome == 0 && h.Outcome != api.Interrupted && !slices.Contains(w.perhaps[k], h.Outcome):
			t.Error(k, h, "of itself")
		}
		w.ended[k] = h.Outcome
	}
	for _, h := range l.All() {
		w.begun[h.Key] = true
		w.ended[h.Key] = h.Outcome
	}
	w.marked = l.Mark()
	w.forgot = l.Mark()
}

// some makes a call, and keeps what was answered.
func (w *told) some(l *Ledger, r *rand.Rand, k api.Key) {
	switch r.Intn(8) {
	case 0, 1, 2:
		if l.Begin(k, r.Intn(1000)) == api.OK {
			w.begun[k] = true
		}
	case 3, 4:
		outcome := 1 + r.Intn(4)
		switch l.End(k, outcome) {
		case api.OK:
			w.ended[k] = outcome
		case api.ErrOff:
			w.perhaps[k] = append(w.perhaps[k], outcome)
		}
	case 5:
		if e := l.Thank(k); e == api.OK || e == api.ErrOff {
			w.thanked[k] = true
		}
	case 6:
		mark := r.Intn(60 * 12)
		if e := l.Forget(mark); e == api.OK {
			w.marked = max(w.marked, mark)
		}
		w.forgot = max(w.forgot, mark)
	case 7:
		l.Compact()
	}
}

func TestCrashes(t *testing.T) {
	for seed := range int64(300) {
		r := rand.New(rand.NewSource(seed))
		s := disk(t, room)
		w := newTold()
		size := 1 + r.Intn(400)
		for range 12 {
			if r.Intn(2) == 0 {
				s.Stop(r.Intn(40))
			}
			// One that could not be opened is opened behind the next crash.
			if l, e := Open(s, size); e == api.OK {
				for range r.Intn(40) {
					w.some(l, r, key("a", 60*r.Intn(12), r.Intn(3)))
				}
			}
			var kept []api.Kept
			for _, f := range s.List() {
				kept = append(kept, api.Kept{Name: f.Name, Bytes: r.Intn(len(f.Bytes) - f.Sure + 1)})
			}
			wants(t, "a crash", s.Crash(kept), api.OK)
			l, e := Open(s, size)
			if e != api.OK {
				t.Fatal(seed, "Open", e)
			}
			w.mustHold(t, l)
			if t.Failed() {
				t.Fatal(seed)
			}
		}
	}
}

// TestExample is the chapter's.
func TestExample(t *testing.T) {
	l, s := fresh(t)
	k := key("a", 60, 5)
	wants(t, "Begin", l.Begin(k, 120), api.OK)
	wants(t, "a crash", s.Crash(nil), api.OK)
	l = opened(t, s)
	mustHave(t, "behind the crash", l, first, api.Held{Key: k, Until: 120, Outcome: api.Interrupted})
	wants(t, "Begin again", l.Begin(k, 120), api.ErrTwice)
}
