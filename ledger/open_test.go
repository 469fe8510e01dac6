package ledger

import (
	"bytes"
	"encoding/binary"
	"math"
	"math/rand"
	"slices"
	"strings"
	"testing"

	"reveille/api"
	"reveille/store"
	"reveille/wal"
)

// What stands in a log is written here without the program's packers.

// code is texts, numbers and flags as bytes.
func code(things ...any) []byte {
	var b []byte
	for _, one := range things {
		switch x := one.(type) {
		case int:
			b = binary.AppendVarint(b, int64(x))
		case uint:
			b = binary.AppendUvarint(b, uint64(x))
		case bool:
			b = append(b, map[bool]byte{true: 1}[x])
		case string:
			b = append(binary.AppendUvarint(b, uint64(len(x))), x...)
		case api.Key:
			b = append(b, code(x.Job, x.Occ, x.Host)...)
		}
	}
	return b
}

func stateOf(mark int, held ...api.Held) []byte {
	b := code(mark, uint(len(held)))
	for _, h := range held {
		b = append(b, code(h.Key, h.Until, h.Outcome, h.Thanked)...)
	}
	return b
}

// logged is a disk with a log of these records, behind a state, if that is not nil.
func logged(t *testing.T, state []byte, records ...[]byte) *store.Store {
	t.Helper()
	s := disk(t, 1<<24)
	l, _, e := wal.Open(s, "ledger", size)
	if e != api.OK {
		t.Fatal("the log", e)
	}
	if state != nil {
		wants(t, "Snapshot", l.Snapshot(state), api.OK)
	}
	for _, b := range records {
		wants(t, "Append", l.Append(b), api.OK)
	}
	wants(t, "Sync", l.Sync(), api.OK)
	return s
}

// P19.1

func TestOpen(t *testing.T) {
	s := disk(t, room)
	l := opened(t, s)
	mustHave(t, "empty", l, -62135596800)
	if l.Records() != 0 || len(s.List()) != 0 {
		t.Error("something was written", l.Records())
	}
	// Where all have ended, nothing is written either.
	s.Stop(9)
	wants(t, "Begin", l.Begin(key("a", 60, 5), 120), api.OK)
	wants(t, "End", l.End(key("a", 60, 5), api.Good), api.OK)
	wants(t, "Thank", l.Thank(key("a", 60, 5)), api.OK)
	s.Stop(1)
	for range 3 {
		mustHave(t, "opened anew", opened(t, s), first, api.Held{Key: key("a", 60, 5), Until: 120, Outcome: api.Good, Thanked: true})
	}
	if s.Off() {
		t.Error("something was written")
	}
}

func TestOpenMayNot(t *testing.T) {
	for _, n := range []int{0, -1, 1<<26 + 1, math.MinInt, math.MaxInt} {
		l, e := Open(disk(t, room), n)
		if wants(t, "size", e, api.ErrArg); l != nil {
			t.Error(n)
		}
	}
	for _, n := range []int{1, 1 << 26} {
		l, e := Open(disk(t, room), n)
		if wants(t, "size", e, api.OK); l == nil {
			t.Error(n)
		}
	}
	l, e := Open(nil, size)
	if wants(t, "no store", e, api.ErrArg); l != nil {
		t.Error("no store")
	}
	s := disk(t, room)
	s.Stop(0)
	l, e = Open(s, size)
	if wants(t, "the power is off", e, api.ErrOff); l != nil {
		t.Error("the power is off")
	}
	s = logged(t, stateOf(0))
	s.Damage("ledger.snap", 9, 77)
	l, e = Open(s, size)
	if wants(t, "a snapshot that is none", e, api.ErrLog); l != nil {
		t.Error("a snapshot that is none")
	}
}

func TestOpenSaid(t *testing.T) {
	a, b, c := key("a", 60, 5), key("b", 60, 5), key("c", 0, 65535)
	s := logged(t, stateOf(0, api.Held{Key: a, Until: 1, Outcome: api.Bad}, api.Held{Key: b, Until: 2, Outcome: api.Good, Thanked: true}),
		code(1, c, 3), code(3, a), code(2, c, api.Killed), code(4, 61), code(3, c), code(1, key("d", 120, 0), end))
	held := []api.Held{{Key: c, Until: 3, Outcome: api.Killed, Thanked: true}, {Key: key("d", 120, 0), Until: end, Outcome: api.Interrupted}}
	l := opened(t, s)
	mustHave(t, "said", l, 61, held...)
	state, records := said(t, s)
	if !bytes.Equal(state, stateOf(0, api.Held{Key: a, Until: 1, Outcome: api.Bad}, api.Held{Key: b, Until: 2, Outcome: api.Good, Thanked: true})) || l.Records() != 7 {
		t.Error(l.Records())
	}
	if len(records) != 7 || !bytes.Equal(records[6], code(2, key("d", 120, 0), api.Interrupted)) {
		t.Errorf("% x", records)
	}
	// Of other names' files nothing is known, and they stay.
	wants(t, "Append", s.Append("boot", []byte("x")), api.OK)
	mustHave(t, "opened anew", opened(t, s), 61, held...)
	if x, e := s.Read("boot"); e != api.OK || string(x) != "x" {
		t.Error(x, e)
	}
}

// TestOpenLog: a state or a record that is none, or says what may not be.
func TestOpenLog(t *testing.T) {
	k := key("a", 60, 5)
	mustRefuse := func(name string, state []byte, records ...[]byte) {
		t.Helper()
		s := logged(t, state, records...)
		before := s.List()
		l, e := Open(s, size)
		if wants(t, name, e, api.ErrLog); l != nil {
			t.Error(name)
		}
		if len(s.List()) != len(before) {
			t.Error(name, "something was written")
		}
	}
	mustRefuse("no state", []byte{})
	mustRefuse("no list", code(0))
	mustRefuse("a byte too many", append(stateOf(0), 0))
	mustRefuse("a byte too many", append(stateOf(0, api.Held{Key: k}), 0))
	mustRefuse("a byte too few", stateOf(0, api.Held{Key: k})[:8])
	mustRefuse("no flag", append(stateOf(0, api.Held{Key: k, Outcome: 1})[:8], 2))
	mustRefuse("a long number", []byte{0x80, 0, 0})
	for _, mark := range []int{first - 1, end + 1, math.MinInt, math.MaxInt} {
		mustRefuse("a watermark", stateOf(mark))
		mustRefuse("until", stateOf(0, api.Held{Key: k, Until: mark}))
		mustRefuse("a watermark", nil, code(4, mark))
		mustRefuse("until", nil, code(1, k, mark))
	}
	for _, other := range keysThatMayNot() {
		mustRefuse("a key", stateOf(0, api.Held{Key: other}))
		mustRefuse("a key", nil, code(1, other, 0))
	}
	for _, outcome := range []int{-1, 5, math.MinInt, math.MaxInt} {
		mustRefuse("an outcome", stateOf(0, api.Held{Key: k, Outcome: outcome}))
		mustRefuse("an outcome", stateOf(0, api.Held{Key: k, Outcome: outcome, Thanked: true}))
		mustRefuse("an outcome", nil, code(1, k, 0), code(2, k, outcome))
	}
	mustRefuse("thanked, and going on", stateOf(0, api.Held{Key: k, Thanked: true}))
	mustRefuse("twice", stateOf(0, api.Held{Key: k}, api.Held{Key: k, Outcome: 1}))
	mustRefuse("not in order", stateOf(0, api.Held{Key: k}, api.Held{Key: key("b", 0, 0)}))
	mustRefuse("not in order", stateOf(0, api.Held{Key: k}, api.Held{Key: key("a", 60, 4)}))

	begun := code(1, k, 0)
	mustRefuse("no record", nil, nil)
	for _, kind := range []int{0, 5, -1, math.MinInt, math.MaxInt} {
		mustRefuse("a kind", nil, code(kind))
		mustRefuse("a kind", nil, begun, code(kind, k))
	}
	for n := 1; n < len(begun); n++ {
		mustRefuse("a byte too few", nil, begun[:n])
	}
	mustRefuse("a byte too few", nil, begun, code(2, k))
	mustRefuse("a byte too few", nil, code(4))
	mustRefuse("a byte too many", nil, code(1, k, 0, 0))
	mustRefuse("a byte too many", nil, begun, code(2, k, 1, 0))
	mustRefuse("a byte too many", nil, begun, code(2, k, 1), code(3, k, 0))
	mustRefuse("a byte too many", nil, code(4, 0, 0))
	mustRefuse("a long number", nil, []byte{8, 0x80, 0})
	mustRefuse("a long job", nil, code(1, strings.Repeat("a", 4097), 60, 5, 0))

	mustRefuse("held twice", nil, begun, begun)
	mustRefuse("held twice", stateOf(0, api.Held{Key: k}), begun)
	mustRefuse("held twice", nil, begun, code(2, k, 1), code(3, k), begun)
	mustRefuse("ahead of the watermark", nil, code(4, 61), begun)
	mustRefuse("ahead of the watermark", stateOf(61), begun)
	mustRefuse("forgotten", nil, begun, code(2, k, 1), code(3, k), code(4, 61), code(2, k, 1))
	mustRefuse("no outcome", nil, begun, code(2, k, 0))
	mustRefuse("ended, but not held", nil, code(2, k, 1))
	mustRefuse("ended twice", nil, begun, code(2, k, 1), code(2, k, 1))
	mustRefuse("ended twice", stateOf(0, api.Held{Key: k, Outcome: 4}), code(2, k, 4))
	mustRefuse("thanked, but not held", nil, code(3, k))
	mustRefuse("thanked, and going on", nil, begun, code(3, k))
	mustRefuse("one behind a good one", nil, begun, code(2, k, 1), code(3, k), code(4, 0), code(3, key("b", 0, 0)))
}

func TestOpenTooMany(t *testing.T) {
	var held []api.Held
	var records [][]byte
	for i := range mostHeld + 1 {
		h := api.Held{Key: key("a", 60, i), Until: i, Outcome: api.Good}
		held = append(held, h)
		records = append(records, code(1, h.Key, h.Until), code(2, h.Key, h.Outcome))
	}
	for _, s := range []*store.Store{logged(t, stateOf(60, held...)), logged(t, nil, records...), logged(t, stateOf(60, held[:mostHeld]...), records[2*mostHeld])} {
		l, e := Open(s, size)
		if wants(t, "too many", e, api.ErrLog); l != nil {
			t.Error("too many")
		}
	}
	for _, s := range []*store.Store{logged(t, stateOf(first, held[:mostHeld]...)), logged(t, nil, records[:2*mostHeld]...)} {
		mustHave(t, "as many as may be", opened(t, s), first, held[:mostHeld]...)
	}
}

// TestOpenSpoiled: of a state and a record of which bytes were changed, either ErrLog is told, or what they say then.
func TestOpenSpoiled(t *testing.T) {
	r := rand.New(rand.NewSource(1))
	a, b := api.Held{Key: key("a", 60, 5), Until: 7, Outcome: api.Good}, api.Held{Key: key("b", 60, 5), Until: end, Outcome: api.Bad, Thanked: true}
	good := 0
	for range 4000 {
		state, record := stateOf(59, a, b), code(1, key("c", 120, 3), 500)
		for range 1 + r.Intn(2) {
			state[r.Intn(len(state))] = byte(r.Intn(256))
			record[r.Intn(len(record))] ^= 1 << r.Intn(8)
		}
		s := logged(t, state, record)
		l, e := Open(s, size)
		if e != api.OK {
			if wants(t, "spoiled", e, api.ErrLog); l != nil {
				t.Error("spoiled")
			}
			continue
		}
		good++
		wants(t, "Compact", l.Compact(), api.OK)
		again, _ := said(t, s)
		if want := stateOf(l.Mark(), l.All()...); !bytes.Equal(again, want) {
			t.Errorf("% x, not % x", again, want)
		}
	}
	if good == 0 || good == 4000 {
		t.Error(good)
	}
}

// TestSaidOfNothing: records that a call would have passed over say nothing that may not be.
func TestSaidOfNothing(t *testing.T) {
	k := key("a", 60, 5)
	s := logged(t, nil, code(1, k, 0), code(2, k, 1), code(4, 100), code(3, k), code(3, k), code(4, 100), code(4, 99))
	mustHave(t, "said", opened(t, s), 100, api.Held{Key: k, Outcome: api.Good, Thanked: true})
}

// P19.1: what went on is interrupted

func TestInterrupted(t *testing.T) {
	keys := []api.Key{key("b", 0, 1), key("a", 60, 0), key("a", 60, 2), key("b", 60, 0)}
	make := func() *store.Store {
		l, s := fresh(t)
		for _, i := range []int{3, 1, 0, 2} {
			wants(t, "Begin", l.Begin(keys[i], i), api.OK)
		}
		wants(t, "End", l.End(keys[1], api.Bad), api.OK)
		return s
	}
	s := make()
	// Three records and one Sync, and not a call more.
	s.Stop(4)
	l := opened(t, s)
	if !s.Off() || !allSure(s) || l.Records() != 8 {
		t.Error(s.Off(), l.Records())
	}
	mustHave(t, "interrupted", l, first, api.Held{Key: keys[0], Outcome: api.Interrupted}, api.Held{Key: keys[1], Until: 1, Outcome: api.Bad},
		api.Held{Key: keys[2], Until: 2, Outcome: api.Interrupted}, api.Held{Key: keys[3], Until: 3, Outcome: api.Interrupted})
	_, records := said(t, crashed(t, s))
	for i, k := range []api.Key{keys[0], keys[2], keys[3]} {
		if want := code(2, k, api.Interrupted); !bytes.Equal(records[5+i], want) {
			t.Errorf("% x, not % x", records[5+i], want)
		}
	}
	for n := range 4 {
		s := make()
		s.Stop(n)
		l, e := Open(s, size)
		if wants(t, "the power goes", e, api.ErrOff); l != nil {
			t.Error("the power goes")
		}
		wants(t, "a crash", s.Crash(nil), api.OK)
		_, records := said(t, s)
		if len(records) != 5 {
			t.Error("there was a Sync too early", len(records))
		}
	}
}

func crashed(t *testing.T, s *store.Store) *store.Store {
	t.Helper()
	other := s.Fork()
	wants(t, "a crash", other.Crash(nil), api.OK)
	return other
}

// TestInterruptedFull: where there is no room for an end, there is no ledger.
func TestInterruptedFull(t *testing.T) {
	l, s := fresh(t)
	for i := range 3 {
		wants(t, "Begin", l.Begin(key("a", 60, i), 0), api.OK)
	}
	left := room - s.Room()
	of := len(code(2, key("a", 60, 0), api.Interrupted)) + 16
	for spare := range 3*of + 2 {
		small := disk(t, left+spare)
		for _, f := range s.List() {
			wants(t, "Append", small.Append(f.Name, f.Bytes), api.OK)
			wants(t, "Sync", small.Sync(f.Name), api.OK)
		}
		want := api.OK
		if spare < 3*of {
			want = api.ErrFull
		}
		l, e := Open(small, size)
		if wants(t, "no room", e, want); (l == nil) != (want != api.OK) {
			t.Error(spare, l)
		}
		_, records := said(t, small)
		if len(records) != 3+min(spare/of, 3) {
			t.Error(spare, len(records))
		}
	}
}

// TestOpenSegments: in segments of any size, what is said is the same.
func TestOpenSegments(t *testing.T) {
	for _, size := range []int{1, 20, 33, 100, 1 << 26} {
		s := disk(t, room)
		l, e := Open(s, size)
		wants(t, "Open", e, api.OK)
		var want []api.Held
		for i := range 20 {
			h := api.Held{Key: key("a", 60*i, 0), Until: i, Outcome: api.Good, Thanked: i%2 == 0}
			wants(t, "Begin", l.Begin(h.Key, h.Until), api.OK)
			wants(t, "End", l.End(h.Key, h.Outcome), api.OK)
			if h.Thanked {
				wants(t, "Thank", l.Thank(h.Key), api.OK)
			}
			want = append(want, h)
		}
		wants(t, "Forget", l.Forget(601), api.OK)
		want = slices.DeleteFunc(want, func(h api.Held) bool { return h.Thanked && h.Key.Occ <= 600 })
		mustHave(t, "written", l, 601, want...)
		l, e = Open(s, size)
		wants(t, "Open", e, api.OK)
		mustHave(t, "opened anew", l, 601, want...)
	}
}
