package wal

import (
	"bytes"
	"encoding/binary"
	"hash/crc32"
	"math/rand"
	"regexp"
	"slices"
	"strconv"
	"strings"
	"testing"

	"reveille/api"
	"reveille/store"
)

// The slow log goes by the chapter's words, and asks the store for all that it is to know.

type slowLog struct {
	s          *store.Store
	size       int
	next, base int
	appended   bool
	dead       bool
}

// step is a change of the store.
type step func(s *store.Store) api.Errno

// slowFirst is the payload of a text's first frame, and what is behind that.
func slowFirst(text string) (payload, rest string, ok bool) {
	if len(text) < 8 {
		return "", "", false
	}
	length := int(binary.BigEndian.Uint32([]byte(text)))
	if length > 65536 || length > len(text)-8 {
		return "", "", false
	}
	payload, rest = text[8:8+length], text[8+length:]
	return payload, rest, crc32.ChecksumIEEE([]byte(text[:4]+payload)) == binary.BigEndian.Uint32([]byte(text[4:]))
}

func all(s *store.Store) files {
	f := files{}
	for _, one := range s.List() {
		f[one.Name] = string(one.Bytes)
	}
	return f
}

func slowSegments(f files) []string {
	var names []string
	for name := range f {
		if regexp.MustCompile(`^log\.[0-9]{10}$`).MatchString(name) {
			names = append(names, name)
		}
	}
	slices.Sort(names)
	return names
}

func slowNumber(segment string) int {
	n, _ := strconv.Atoi(segment[4:])
	return n
}

// slowSnapshot is the state and the number, and whether the snapshot is one, or none at all.
func slowSnapshot(f files) (string, int, bool) {
	text, there := f["log.snap"]
	if !there {
		return "", 0, true
	}
	payload, rest, ok := slowFirst(text)
	if !ok || rest != "" || len(payload) < 8 || binary.BigEndian.Uint64([]byte(payload)) >= 1<<62 {
		return "", 0, false
	}
	return payload[8:], int(binary.BigEndian.Uint64([]byte(payload))), true
}

// slowRecords are all that are found in segments, the number of the first one, and what is done to those in which they do not stand.
func slowRecords(f files) (texts []string, first int, steps []step) {
	segments := slowSegments(f)
	if len(segments) == 0 {
		return nil, 0, nil
	}
	first = slowNumber(segments[0])
	n := first
	ended := false
	for _, segment := range segments {
		rest := f[segment]
		counts := 0
		ended = ended || slowNumber(segment) != n
		for !ended && rest != "" {
			payload, behind, ok := slowFirst(rest)
			if !ok || len(payload) < 8 || binary.BigEndian.Uint64([]byte(payload)) != uint64(n) {
				ended = true
				break
			}
			n++
			texts = append(texts, payload[8:])
			rest = behind
			counts++
		}
		size := len(f[segment]) - len(rest)
		switch {
		case ended && counts > 0:
			steps = append(steps, func(s *store.Store) api.Errno { return s.Cut(segment, size) })
		case ended:
			steps = append(steps, func(s *store.Store) api.Errno { return s.Remove(segment) })
		}
	}
	return texts, first, steps
}

// slowOpen is what is found of a store, and what is done to it.
func slowOpen(s *store.Store) (found api.Found, next int, steps []step, e api.Errno) {
	f := all(s)
	state, base, ok := slowSnapshot(f)
	if !ok {
		return api.Found{}, 0, nil, api.ErrLog
	}
	if _, there := f["log.tmp"]; there {
		steps = append(steps, func(s *store.Store) api.Errno { return s.Remove("log.tmp") })
	}
	texts, first, more := slowRecords(f)
	segments := slowSegments(f)
	next = first + len(texts)
	if len(segments) > 0 && (next < base || first > base) {
		more = nil
		for _, segment := range segments {
			more = append(more, func(s *store.Store) api.Errno { return s.Remove(segment) })
		}
		segments = nil
	}
	found = api.Found{State: []byte(state), Index: base}
	if len(segments) == 0 {
		return found, base, append(steps, more...), api.OK
	}
	for _, text := range texts[base-first:] {
		found.Records = append(found.Records, []byte(text))
	}
	return found, next, append(steps, more...), api.OK
}

func (l *slowLog) try(steps ...step) api.Errno {
	for _, do := range steps {
		if e := do(l.s); e != api.OK {
			l.dead = l.dead || e == api.ErrOff
			return e
		}
	}
	return api.OK
}

// last is the last segment, and whether there is one.
func (l *slowLog) last() (string, bool) {
	segments := slowSegments(all(l.s))
	if len(segments) == 0 {
		return "", false
	}
	return segments[len(segments)-1], true
}

func (l *slowLog) sync() api.Errno {
	if l.dead {
		return api.ErrOff
	}
	if !l.appended {
		return api.OK
	}
	last, _ := l.last()
	e := l.try(func(s *store.Store) api.Errno { return s.Sync(last) })
	if e == api.OK {
		l.appended = false
	}
	return e
}

func (l *slowLog) append(record []byte) api.Errno {
	if l.dead {
		return api.ErrOff
	}
	if len(record) > most {
		return api.ErrLong
	}
	last, there := l.last()
	if there && len(all(l.s)[last]) >= l.size {
		if e := l.sync(); e != api.OK {
			return e
		}
		there = false
	}
	if !there {
		digits := "0000000000" + strconv.Itoa(l.next)
		last = "log." + digits[len(digits)-10:]
	}
	e := l.try(func(s *store.Store) api.Errno { return s.Append(last, []byte(one(uint64(l.next), string(record)))) })
	if e == api.OK {
		l.next++
		l.appended = true
	}
	return e
}

func (l *slowLog) snapshot(state []byte) api.Errno {
	if l.dead {
		return api.ErrOff
	}
	if len(state) > most {
		return api.ErrLong
	}
	if e := l.sync(); e != api.OK {
		return e
	}
	var steps []step
	if _, there := all(l.s)["log.tmp"]; there {
		steps = append(steps, func(s *store.Store) api.Errno { return s.Remove("log.tmp") })
	}
	steps = append(steps,
		func(s *store.Store) api.Errno { return s.Append("log.tmp", []byte(one(uint64(l.next), string(state)))) },
		func(s *store.Store) api.Errno { return s.Rename("log.tmp", "log.snap") })
	for _, segment := range slowSegments(all(l.s)) {
		steps = append(steps, func(s *store.Store) api.Errno { return s.Remove(segment) })
	}
	if e := l.try(steps...); e != api.OK {
		l.dead = true
		return e
	}
	l.base = l.next
	return api.OK
}

func sameStores(a, b *store.Store) bool {
	return a.Off() == b.Off() && slices.EqualFunc(a.List(), b.List(), func(x, y api.Stored) bool {
		return x.Name == y.Name && x.Sure == y.Sure && bytes.Equal(x.Bytes, y.Bytes)
	})
}

func sameFound(a, b api.Found) bool {
	return bytes.Equal(a.State, b.State) && a.Index == b.Index && slices.EqualFunc(a.Records, b.Records, bytes.Equal)
}

func randomText(r *rand.Rand) string {
	n := r.Intn(12)
	if r.Intn(20) == 0 {
		n = r.Intn(60)
	}
	return strings.Repeat(string(rune('a'+r.Intn(26))), n)
}

// randomFiles are those of a log, mostly, of which something is amiss, mostly.
func randomFiles(r *rand.Rand) files {
	f := files{}
	first := r.Intn(3) * r.Intn(5)
	n := first
	for range r.Intn(5) {
		var texts []string
		for range r.Intn(4) {
			texts = append(texts, randomText(r))
		}
		f["log."+strconv.Itoa(10000000000 + n)[1:]] = records(uint64(n), texts...)
		n += len(texts)
	}
	if r.Intn(3) > 0 {
		f["log.snap"] = one(uint64(first+r.Intn(n-first+2)), randomText(r))
	}
	if r.Intn(3) == 0 {
		f["log.tmp"] = randomText(r)
	}
	if r.Intn(3) == 0 {
		f["other.0000000000"] = randomText(r)
	}
	for range r.Intn(3) {
		spoil(r, f)
	}
	return f
}

// spoil changes something of some files.
func spoil(r *rand.Rand, f files) {
	names := slowSegments(f)
	if r.Intn(9) == 0 {
		names = append(names, "log.snap")
	}
	if len(names) == 0 {
		return
	}
	name := names[r.Intn(len(names))]
	text := f[name]
	at := r.Intn(len(text) + 1)
	switch r.Intn(5) {
	case 0:
		f[name] = text[:at]
	case 1:
		if at < len(text) {
			f[name] = text[:at] + string([]byte{byte(r.Intn(256))}) + text[at+1:]
		}
	case 2:
		delete(f, name)
	case 3:
		f["log."+strconv.Itoa(10000000000 + r.Intn(12))[1:]] = text
	default:
		f[name] = text + one(uint64(r.Intn(12)), randomText(r))
	}
}

// P9.1

func TestOpenAsTheSlowOne(t *testing.T) {
	r := rand.New(rand.NewSource(1))
	kinds := map[api.Errno]int{}
	for i := range 6000 {
		s := made(t, 1<<20, randomFiles(r))
		want, next, steps, wantE := slowOpen(s)
		size := 1 + r.Intn(90)
		for n := range len(steps) + 1 {
			mine, slow := s.Fork(), s.Fork()
			if n < len(steps) {
				mine.Stop(n)
				slow.Stop(n)
			}
			for _, do := range steps {
				do(slow)
			}
			l, found, e := Open(mine, "log", size)
			kinds[e]++
			if n < len(steps) {
				if e != api.ErrOff || l != nil || !sameFound(found, api.Found{}) || !sameStores(mine, slow) {
					t.Fatal(i, "off behind", n, "of", len(steps), e, mine.List(), slow.List())
				}
				continue
			}
			if e != wantE || !sameFound(found, want) || !sameStores(mine, slow) {
				t.Fatal(i, e, wantE, found, want, mine.List(), slow.List())
			}
			if e == api.OK && (l.Next() != next || l.Base() != want.Index) {
				t.Fatal(i, l.Next(), next, l.Base())
			}
		}
	}
	if kinds[api.OK] < 3000 || kinds[api.ErrLog] < 50 || kinds[api.ErrOff] < 2000 {
		t.Error("too few of a kind", kinds)
	}
}

// both is a log and a slow one, each on a store of its own.
type both struct {
	l    *Log
	slow *slowLog
}

// reopen opens both behind what is done to both stores.
func (b *both) reopen(t *testing.T, s, slow *store.Store, size int) {
	t.Helper()
	_, next, steps, e := slowOpen(slow)
	wants(t, "slow open", e, api.OK)
	for _, do := range steps {
		wants(t, "slow step", do(slow), api.OK)
	}
	l, found, e := Open(s, "log", size)
	if e != api.OK {
		t.Fatal("Open", e)
	}
	b.l = l
	b.slow = &slowLog{s: slow, size: size, next: next, base: found.Index}
}

// do does the same to both, and tells what they answer.
func (b *both) do(r *rand.Rand) (string, api.Errno, api.Errno) {
	text := []byte(randomText(r))
	if r.Intn(50) == 0 {
		text = make([]byte, most+1)
	}
	switch r.Intn(10) {
	case 0, 1:
		return "Sync", b.l.Sync(), b.slow.sync()
	case 2:
		return "Snapshot", b.l.Snapshot(text), b.slow.snapshot(text)
	}
	return "Append", b.l.Append(text), b.slow.append(text)
}

// randomKept is of some files some of their bytes that are not sure.
func randomKept(r *rand.Rand, s *store.Store) []api.Kept {
	var kept []api.Kept
	for _, f := range s.List() {
		if r.Intn(3) > 0 {
			kept = append(kept, api.Kept{Name: f.Name, Bytes: r.Intn(len(f.Bytes) - f.Sure + 1)})
		}
	}
	return kept
}

// P9.1, P9.2, P9.3

func TestAsTheSlowOne(t *testing.T) {
	for seed := range int64(60) {
		r := rand.New(rand.NewSource(seed))
		room, size := 200+r.Intn(2000), 1+r.Intn(120)
		s, other := made(t, room, nil), made(t, room, nil)
		var b both
		b.reopen(t, s, other, size)
		for i := range 400 {
			call, got, want := b.do(r)
			if got != want || !sameStores(s, other) || b.l.Next() != b.slow.next || b.l.Base() != b.slow.base {
				t.Fatal(seed, i, call, got, want, s.List(), other.List(), b.l.Next(), b.slow.next, b.l.Base(), b.slow.base)
			}
			switch {
			case r.Intn(20) == 0:
				n := r.Intn(8)
				s.Stop(n)
				other.Stop(n)
			case r.Intn(20) == 0 || b.slow.dead && r.Intn(3) == 0:
				kept := randomKept(r, s)
				wants(t, "Crash", s.Crash(kept), api.OK)
				wants(t, "Crash", other.Crash(kept), api.OK)
				b.reopen(t, s, other, size)
			case !s.Off() && r.Intn(20) == 0:
				// Opened without a crash: what is found counts as synced.
				b.reopen(t, s, other, size)
			}
		}
	}
}

// P9.4

// known is what is known of a log whose store crashes: what was appended, and of how many records that is sure.
type known struct {
	appended []string
	sure     int
	states   map[string]int // of how many records a snapshot's state was made
}

// check holds what is found against what is known; what is found is sure from then on.
func (k *known) check(t *testing.T, found api.Found) {
	t.Helper()
	made, there := k.states[string(found.State)]
	if found.Index > 0 && (!there || made != found.Index) || found.Index > len(k.appended) {
		t.Fatal("a state of other records", found.Index, made, there)
	}
	n := found.Index + len(found.Records)
	if n < k.sure || n > len(k.appended) {
		t.Fatal("found", n, "sure", k.sure, "appended", len(k.appended))
	}
	for i, record := range found.Records {
		if string(record) != k.appended[found.Index+i] {
			t.Fatal("another record", found.Index+i)
		}
	}
	k.appended = k.appended[:n]
	k.sure = n
}

// use does something with the log, and knows of it.
func (k *known) use(r *rand.Rand, l *Log) {
	text := strconv.Itoa(r.Int()) + randomText(r)
	switch r.Intn(10) {
	case 0, 1:
		if l.Sync() == api.OK {
			k.sure = len(k.appended)
		}
	case 2:
		// Whether it was refused or not, it may be what is found.
		k.states[text] = len(k.appended)
		if l.Snapshot([]byte(text)) == api.OK {
			k.sure = len(k.appended)
		}
	default:
		if l.Append([]byte(text)) == api.OK {
			k.appended = append(k.appended, text)
		}
	}
}

func TestCrashes(t *testing.T) {
	for seed := range int64(80) {
		r := rand.New(rand.NewSource(seed))
		s := made(t, 300+r.Intn(3000), nil)
		k := known{states: map[string]int{}}
		size := 1 + r.Intn(200)
		for range 60 {
			if r.Intn(2) == 0 {
				s.Stop(r.Intn(4))
			}
			l, found, e := Open(s, "log", size)
			if e == api.OK {
				k.check(t, found)
				s.Stop(r.Intn(40) - 1)
				for range r.Intn(40) {
					k.use(r, l)
				}
			} else if e != api.ErrOff {
				t.Fatal("Open", e)
			}
			wants(t, "Crash", s.Crash(randomKept(r, s)), api.OK)
		}
	}
}
