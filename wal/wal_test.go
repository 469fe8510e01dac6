package wal

import (
	"bytes"
	"encoding/binary"
	"hash/crc32"
	"math"
	"slices"
	"strings"
	"testing"

	"reveille/api"
	"reveille/store"
)

const most = 65528

// framed goes by the chapters' words, of any payload.
func framed(payload string) string {
	length := binary.BigEndian.AppendUint32(nil, uint32(len(payload)))
	sum := crc32.ChecksumIEEE([]byte(string(length) + payload))
	return string(binary.BigEndian.AppendUint32(length, sum)) + payload
}

// one is the frame of a number and a text.
func one(number uint64, text string) string {
	return framed(string(binary.BigEndian.AppendUint64(nil, number)) + text)
}

// records is a segment's bytes: those of the texts, numbered from first on.
func records(first uint64, texts ...string) string {
	var all strings.Builder
	for i, text := range texts {
		all.WriteString(one(first+uint64(i), text))
	}
	return all.String()
}

// files is what a store has: of names bytes.
type files map[string]string

func made(t *testing.T, room int, all files) *store.Store {
	t.Helper()
	s, e := store.New(room)
	wants(t, "New", e, api.OK)
	for name, text := range all {
		wants(t, name, s.Append(name, []byte(text)), api.OK)
	}
	return s
}

func wants(t *testing.T, name string, got, want api.Errno) {
	t.Helper()
	if got != want {
		t.Errorf("%s: %d, not %d", name, got, want)
	}
}

// has checks what a store has.
func has(t *testing.T, name string, s *store.Store, want files) {
	t.Helper()
	l := s.List()
	if len(l) != len(want) {
		t.Errorf("%s: %d files, not %d", name, len(l), len(want))
	}
	for _, f := range l {
		if text, ok := want[f.Name]; !ok || text != string(f.Bytes) {
			t.Errorf("%s: %s has %q, not %q (%v)", name, f.Name, f.Bytes, text, ok)
		}
	}
}

// sureOf is how many bytes of a file are sure.
func sureOf(s *store.Store, name string) int {
	for _, f := range s.List() {
		if f.Name == name {
			return f.Sure
		}
	}
	return -1
}

// opened is the log "log", which must be there.
func opened(t *testing.T, s *store.Store, size int) (*Log, api.Found) {
	t.Helper()
	l, found, e := Open(s, "log", size)
	if e != api.OK || l == nil {
		t.Fatal("Open", e)
	}
	return l, found
}

func appends(t *testing.T, l *Log, texts ...string) {
	t.Helper()
	for _, text := range texts {
		next := l.Next()
		wants(t, "Append", l.Append([]byte(text)), api.OK)
		if l.Next() != next+1 {
			t.Error("Next behind an Append", l.Next(), next)
		}
	}
}

// finds checks what was found.
func finds(t *testing.T, name string, found api.Found, state string, index int, texts ...string) {
	t.Helper()
	var got []string
	for _, record := range found.Records {
		got = append(got, string(record))
	}
	if string(found.State) != state || found.Index != index || !slices.Equal(got, texts) {
		t.Errorf("%s: %q, %d, %q, not %q, %d, %q", name, found.State, found.Index, got, state, index, texts)
	}
}

// is checks a log's numbers.
func is(t *testing.T, name string, l *Log, next, base int) {
	t.Helper()
	if l.Next() != next || l.Base() != base {
		t.Errorf("%s: Next %d, Base %d, not %d, %d", name, l.Next(), l.Base(), next, base)
	}
}

// P9.2

func TestAppend(t *testing.T) {
	s := made(t, 1000, nil)
	l, found := opened(t, s, 40)
	finds(t, "none", found, "", 0)
	is(t, "none", l, 0, 0)
	has(t, "none", s, nil)
	// Each of a byte has 17 bytes: behind three there are 51.
	appends(t, l, "a", "b")
	has(t, "two", s, files{"log.0000000000": records(0, "a", "b")})
	appends(t, l, "c")
	has(t, "three", s, files{"log.0000000000": records(0, "a", "b", "c")})
	if sureOf(s, "log.0000000000") != 0 {
		t.Error("synced too early")
	}
	appends(t, l, "d")
	has(t, "four", s, files{"log.0000000000": records(0, "a", "b", "c"), "log.0000000003": records(3, "d")})
	if sureOf(s, "log.0000000000") != 51 || sureOf(s, "log.0000000003") != 0 {
		t.Error("synced", sureOf(s, "log.0000000000"), sureOf(s, "log.0000000003"))
	}
	appends(t, l, "", strings.Repeat("x", 100), "e")
	has(t, "seven", s, files{
		"log.0000000000": records(0, "a", "b", "c"),
		"log.0000000003": records(3, "d", "", strings.Repeat("x", 100)),
		"log.0000000006": records(6, "e"),
	})
	is(t, "seven", l, 7, 0)
}

// A segment of just as many bytes as are said is full.
func TestSizesOfSegments(t *testing.T) {
	for size, want := range map[int]int{1: 6, 16: 6, 17: 6, 18: 3, 34: 3, 35: 2, 51: 2, 52: 2, 68: 2, 69: 2, 85: 2, 86: 1, 102: 1, 1 << 26: 1} {
		s := made(t, 1000, nil)
		l, _ := opened(t, s, size)
		appends(t, l, "a", "b", "c", "d", "e", "f")
		if got := len(s.List()); got != want {
			t.Errorf("%d: %d segments, not %d", size, got, want)
		}
	}
}

func TestAppendOfLongRecords(t *testing.T) {
	long := strings.Repeat("x", most)
	for _, size := range []int{1, 1 << 26} {
		s := made(t, 1<<20, nil)
		l, _ := opened(t, s, size)
		wants(t, "the longest", l.Append([]byte(long)), api.OK)
		want := s.List()
		for _, n := range []int{most + 1, most + 2, most + 8, most + 9, 1 << 20} {
			wants(t, "too long", l.Append(make([]byte, n)), api.ErrLong)
			wants(t, "too long", l.Snapshot(make([]byte, n)), api.ErrLong)
		}
		is(t, "refused", l, 1, 0)
		if got := s.List(); len(got) != 1 || !bytes.Equal(got[0].Bytes, want[0].Bytes) || got[0].Sure != 0 {
			t.Error("something was done")
		}
		appends(t, l, "a")
		_, found := opened(t, s, size)
		finds(t, "the longest", found, "", 0, long, "a")
		wants(t, "the longest state", l.Snapshot([]byte(long)), api.OK)
		_, found = opened(t, s, size)
		finds(t, "the longest state", found, long, 2)
	}
}

// What is too long is refused ahead of what the store refuses.
func TestTooLongAheadOfOff(t *testing.T) {
	s := made(t, 1000, nil)
	l, _ := opened(t, s, 100)
	s.Stop(0)
	wants(t, "Append", l.Append(make([]byte, most+1)), api.ErrLong)
	wants(t, "Snapshot", l.Snapshot(make([]byte, most+1)), api.ErrLong)
	wants(t, "Crash", s.Crash(nil), api.OK)
	appends(t, l, "a")
}

func TestAppendWithoutRoom(t *testing.T) {
	s := made(t, 60, nil)
	l, _ := opened(t, s, 1000)
	appends(t, l, "a", "b")
	wants(t, "too much", l.Append(make([]byte, 11)), api.ErrFull)
	is(t, "too much", l, 2, 0)
	has(t, "too much", s, files{"log.0000000000": records(0, "a", "b")})
	// It is of use, and the number was not given.
	appends(t, l, "0123456789")
	has(t, "just enough", s, files{"log.0000000000": records(0, "a", "b", "0123456789")})
	wants(t, "nothing is left", l.Append(nil), api.ErrFull)
	wants(t, "Sync", l.Sync(), api.OK)
	_, found := opened(t, s, 1000)
	finds(t, "just enough", found, "", 0, "a", "b", "0123456789")
}

// Where a new segment finds no room, the one ahead of it was synced, and goes on to be the last one.
func TestNewSegmentWithoutRoom(t *testing.T) {
	s := made(t, 60, nil)
	l, _ := opened(t, s, 17)
	appends(t, l, "a")
	for range 3 {
		wants(t, "too much", l.Append(make([]byte, 28)), api.ErrFull)
		is(t, "too much", l, 1, 0)
		has(t, "too much", s, files{"log.0000000000": records(0, "a")})
		if sureOf(s, "log.0000000000") != 17 {
			t.Error("not synced")
		}
	}
	s.Stop(1)
	// It was synced once: the one call that is left is the Append.
	appends(t, l, "b")
	if !s.Off() {
		t.Error("no call, or too many")
	}
	has(t, "a smaller one", s, files{"log.0000000000": records(0, "a"), "log.0000000001": records(1, "b")})
}

func TestTooManyFiles(t *testing.T) {
	s := made(t, 10000, nil)
	l, _ := opened(t, s, 1)
	for range api.MaxFiles {
		appends(t, l, "a")
	}
	wants(t, "one more", l.Append([]byte("a")), api.ErrFull)
	is(t, "one more", l, 64, 0)
	wants(t, "Remove", s.Remove("log.0000000000"), api.OK)
	appends(t, l, "b")
	if got := sureOf(s, "log.0000000064"); got != 0 {
		t.Error(got)
	}
}

func TestSync(t *testing.T) {
	s := made(t, 1000, nil)
	l, _ := opened(t, s, 1000)
	s.Stop(100)
	wants(t, "of nothing", l.Sync(), api.OK)
	appends(t, l, "a", "b")
	if sureOf(s, "log.0000000000") != 0 {
		t.Error("sure too early")
	}
	wants(t, "Sync", l.Sync(), api.OK)
	if sureOf(s, "log.0000000000") != 34 {
		t.Error("not sure")
	}
	appends(t, l, "c")
	wants(t, "Sync", l.Sync(), api.OK)
	if sureOf(s, "log.0000000000") != 51 {
		t.Error("not sure anew")
	}
	// Where nothing is to be synced the store is not called, and refuses nothing.
	s.Stop(0)
	wants(t, "of nothing more", l.Sync(), api.OK)
	wants(t, "Crash", s.Crash(nil), api.OK)
	appends(t, l, "d")
}

// calls counts how many calls of the store something makes that are OK.
func calls(s *store.Store, do func()) int {
	const many = 1000
	s.Stop(many)
	do()
	n := many
	for other := s.Fork(); !other.Off(); n-- {
		other.Append("count", nil)
	}
	s.Stop(-1)
	return n
}

func TestSyncsAreNoMoreThanNeeded(t *testing.T) {
	s := made(t, 1000, nil)
	l, _ := opened(t, s, 17)
	for _, c := range []struct {
		name string
		do   func()
		want int
	}{
		{"Sync of nothing", func() { l.Sync() }, 0},
		{"Append", func() { l.Append([]byte("a")) }, 1},
		{"Append to a new one", func() { l.Append([]byte("b")) }, 2},
		{"Append and Sync", func() { l.Append([]byte("c")); l.Sync() }, 3},
		{"Sync again", func() { l.Sync() }, 0},
		{"Append to a new one behind a Sync", func() { l.Append([]byte("d")) }, 1},
		{"what Open found", func() { l, _ = opened(t, s, 17); l.Sync() }, 0},
		{"Append to a new one behind what Open found", func() { l.Append([]byte("e")) }, 1},
		{"Sync", func() { l.Sync() }, 1},
		{"Append that is not synced", func() { l.Append([]byte("f")) }, 1},
		{"Snapshot of six segments", func() { l.Snapshot(nil) }, 1 + 2 + 6},
		{"Sync behind a Snapshot", func() { l.Sync() }, 0},
		{"Snapshot of no segment", func() { l.Snapshot(nil) }, 2},
		{"Append behind a Snapshot", func() { l.Append([]byte("g")) }, 1},
	} {
		if got := calls(s, c.do); got != c.want {
			t.Errorf("%s: %d calls, not %d", c.name, got, c.want)
		}
	}
	is(t, "all", l, 7, 6)
}

func TestWhereThePowerGoes(t *testing.T) {
	for name, do := range map[string]func(l *Log) api.Errno{
		"Append":   func(l *Log) api.Errno { return l.Append([]byte("x")) },
		"Sync":     (*Log).Sync,
		"Snapshot": func(l *Log) api.Errno { return l.Snapshot([]byte("x")) },
	} {
		s := made(t, 1000, nil)
		l, _ := opened(t, s, 1000)
		appends(t, l, "a")
		wants(t, name, l.Snapshot([]byte("s")), api.OK)
		appends(t, l, "b", "c")
		s.Stop(0)
		wants(t, name, do(l), api.ErrOff)
		// It is of no more use, even where the power is back.
		wants(t, name, s.Crash(nil), api.OK)
		mustBeDead(t, name, l, 3, 1)
		has(t, name, s, files{"log.snap": one(1, "s")})
	}
}

// mustBeDead: the log is of no more use, and does nothing.
func mustBeDead(t *testing.T, name string, l *Log, next, base int) {
	t.Helper()
	for range 2 {
		wants(t, name, l.Append(nil), api.ErrOff)
		wants(t, name, l.Append(make([]byte, most+1)), api.ErrOff)
		wants(t, name, l.Sync(), api.ErrOff)
		wants(t, name, l.Snapshot(nil), api.ErrOff)
		wants(t, name, l.Snapshot(make([]byte, most+1)), api.ErrOff)
		is(t, name, l, next, base)
	}
}

// The Sync that an Append makes may be refused too: nothing is appended then.
func TestWhereThePowerGoesAtANewSegment(t *testing.T) {
	s := made(t, 1000, nil)
	l, _ := opened(t, s, 17)
	appends(t, l, "a")
	s.Stop(0)
	wants(t, "Append", l.Append([]byte("b")), api.ErrOff)
	mustBeDead(t, "Append", l, 1, 0)
	if sureOf(s, "log.0000000000") != 0 {
		t.Error("synced")
	}
	has(t, "off", s, files{"log.0000000000": records(0, "a")})
}

// P9.3

func TestSnapshot(t *testing.T) {
	for _, tmp := range []bool{false, true} {
		s := made(t, 1000, files{"other": "x", "log": "y", "log.00000000": "z", "gol.0000000000": "w"})
		l, _ := opened(t, s, 17)
		appends(t, l, "a", "b", "c")
		if tmp {
			wants(t, "tmp", s.Append("log.tmp", []byte("what is left of another one")), api.OK)
		}
		wants(t, "Snapshot", l.Snapshot([]byte("abc")), api.OK)
		is(t, "Snapshot", l, 3, 3)
		others := files{"other": "x", "log": "y", "log.00000000": "z", "gol.0000000000": "w"}
		others["log.snap"] = one(3, "abc")
		has(t, "Snapshot", s, others)
		if sureOf(s, "log.snap") != 19 {
			t.Error("not sure")
		}
		appends(t, l, "d", "e")
		is(t, "two more", l, 5, 3)
		others["log.0000000003"], others["log.0000000004"] = records(3, "d"), records(4, "e")
		has(t, "two more", s, others)
		_, found := opened(t, s, 17)
		finds(t, "two more", found, "abc", 3, "d", "e")
		wants(t, "another one", l.Snapshot(nil), api.OK)
		l, found = opened(t, s, 17)
		finds(t, "another one", found, "", 5)
		is(t, "another one", l, 5, 5)
	}
}

func TestSnapshotOfNothing(t *testing.T) {
	s := made(t, 1000, nil)
	l, _ := opened(t, s, 17)
	wants(t, "Snapshot", l.Snapshot([]byte("s")), api.OK)
	is(t, "Snapshot", l, 0, 0)
	has(t, "Snapshot", s, files{"log.snap": one(0, "s")})
	appends(t, l, "a")
	_, found := opened(t, s, 17)
	finds(t, "Snapshot", found, "s", 0, "a")
}

// snapshots is a log of three segments, of which the last one is not synced, and a draft beside them.
func snapshots(t *testing.T, room int) (*store.Store, *Log) {
	t.Helper()
	s := made(t, room, nil)
	l, _ := opened(t, s, 17)
	appends(t, l, "a", "b", "c")
	wants(t, "tmp", s.Append("log.tmp", []byte("draft")), api.OK)
	return s, l
}

// Wherever the power goes, what was done is a beginning of the steps, and the log is of no more use.
func TestStepsOfSnapshot(t *testing.T) {
	a, b, c := records(0, "a"), records(1, "b"), records(2, "c")
	snap := one(3, "s")
	for n, want := range []files{
		{"log.0000000000": a, "log.0000000001": b, "log.0000000002": c, "log.tmp": "draft"},
		{"log.0000000000": a, "log.0000000001": b, "log.0000000002": c, "log.tmp": "draft"},
		{"log.0000000000": a, "log.0000000001": b, "log.0000000002": c},
		{"log.0000000000": a, "log.0000000001": b, "log.0000000002": c, "log.tmp": snap},
		{"log.0000000000": a, "log.0000000001": b, "log.0000000002": c, "log.snap": snap},
		{"log.0000000001": b, "log.0000000002": c, "log.snap": snap},
		{"log.0000000002": c, "log.snap": snap},
	} {
		s, l := snapshots(t, 1000)
		s.Stop(n)
		wants(t, "Snapshot", l.Snapshot([]byte("s")), api.ErrOff)
		has(t, "Snapshot", s, want)
		if synced := sureOf(s, "log.0000000002") == 17; synced != (n > 0) {
			t.Error(n, "synced", synced)
		}
		wants(t, "Crash", s.Crash(nil), api.OK)
		mustBeDead(t, "Snapshot", l, 3, 0)
		l, found := opened(t, s, 17)
		switch {
		case n >= 4:
			finds(t, "Snapshot", found, "s", 3)
			is(t, "Snapshot", l, 3, 3)
		case n >= 1:
			finds(t, "Sync", found, "", 0, "a", "b", "c")
			is(t, "Sync", l, 3, 0)
		default:
			finds(t, "nothing", found, "", 0, "a", "b")
			is(t, "nothing", l, 2, 0)
		}
	}
	s, l := snapshots(t, 1000)
	s.Stop(7)
	// The power goes with the last step: nothing is refused.
	wants(t, "Snapshot", l.Snapshot([]byte("s")), api.OK)
	is(t, "Snapshot", l, 3, 3)
	has(t, "Snapshot", s, files{"log.snap": snap})
}

// Where a Snapshot finds no room, its log is of no more use, and its Sync is done.
func TestSnapshotWithoutRoom(t *testing.T) {
	s, l := snapshots(t, 90)
	wants(t, "Snapshot", l.Snapshot(make([]byte, 24)), api.ErrFull)
	mustBeDead(t, "Snapshot", l, 3, 0)
	has(t, "Snapshot", s, files{"log.0000000000": records(0, "a"), "log.0000000001": records(1, "b"), "log.0000000002": records(2, "c")})
	if sureOf(s, "log.0000000002") != 17 {
		t.Error("not synced")
	}
	_, found := opened(t, s, 17)
	finds(t, "Snapshot", found, "", 0, "a", "b", "c")

	s, l = snapshots(t, 90)
	wants(t, "just enough", l.Snapshot(make([]byte, 23)), api.OK)
	is(t, "just enough", l, 3, 3)
}

func TestLogThatIsNone(t *testing.T) {
	for _, l := range []*Log{nil, {}} {
		for _, b := range [][]byte{nil, {1}, make([]byte, most+1)} {
			wants(t, "Append", l.Append(b), api.ErrClosed)
			wants(t, "Snapshot", l.Snapshot(b), api.ErrClosed)
		}
		wants(t, "Sync", l.Sync(), api.ErrClosed)
		is(t, "none", l, 0, 0)
	}
}

// R3

func TestArgumentsAndAnswersAreApart(t *testing.T) {
	s := made(t, 1000, nil)
	l, _ := opened(t, s, 1000)
	room := []byte("statefirstsecondthird")
	wants(t, "Snapshot", l.Snapshot(room[:5]), api.OK)
	wants(t, "Append", l.Append(room[5:10]), api.OK)
	wants(t, "Append", l.Append(room[10:16]), api.OK)
	wants(t, "Append", l.Append(room[16:]), api.OK)
	if string(room) != "statefirstsecondthird" {
		t.Errorf("%q", room)
	}
	clear(room)
	want := files{"log.snap": one(0, "state"), "log.0000000000": records(0, "first", "second", "third")}
	has(t, "arguments", s, want)
	_, found := opened(t, s, 1000)
	spoil := func(b []byte) {
		for i := range b[:cap(b)] {
			b[:cap(b)][i] = 'q'
		}
	}
	spoil(found.State)
	finds(t, "state", found, "qqqqq", 0, "first", "second", "third")
	spoil(found.Records[0])
	spoil(found.Records[2])
	_ = append(found.Records[0], "behind its end"...)
	finds(t, "records", found, "qqqqq", 0, "qqqqq", "second", "qqqqq")
	has(t, "answers", s, want)
}

func TestHowManyThereWere(t *testing.T) {
	s := made(t, 1000, files{"log.snap": one(math.MaxInt>>1, "s")})
	l, found := opened(t, s, 1)
	finds(t, "2^62 - 1", found, "s", 1<<62-1)
	is(t, "2^62 - 1", l, 1<<62-1, 1<<62-1)
	// Of more than ten digits, the last ten stand in the names.
	appends(t, l, "a", "b")
	has(t, "2^62 + 1", s, files{
		"log.snap":       one(1<<62-1, "s"),
		"log.8427387903": one(1<<62-1, "a"),
		"log.8427387904": one(1<<62, "b"),
	})
}
