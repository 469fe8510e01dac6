package ledger

import (
	"bytes"
	"cmp"
	"encoding/binary"
	"math/rand"
	"slices"
	"testing"

	"reveille/api"
	"reveille/store"
	"reveille/wal"
)

// The slow ledger goes by the chapter's words, on a disk and a log of its own.

type slowLedger struct {
	log  *wal.Log
	runs []api.Held
	mark int
}

func (l *slowLedger) find(k api.Key) int {
	return slices.IndexFunc(l.runs, func(h api.Held) bool { return h.Key == k })
}

// slowWrite appends a record, and makes it sure, if it is to be.
func (l *slowLedger) slowWrite(sync bool, things ...any) api.Errno {
	e := l.log.Append(code(things...))
	if e == api.OK && sync {
		e = l.log.Sync()
	}
	return e
}

// slowOpen trusts the log: it was written by one that holds to the chapter.
func slowOpen(s *store.Store, size int) (*slowLedger, api.Errno) {
	log, found, e := wal.Open(s, "ledger", size)
	if e != api.OK {
		return nil, e
	}
	l := &slowLedger{log: log, mark: first}
	if b := found.State; len(b) > 0 {
		l.mark = slowInt(&b)
		n, _ := slowNumber(&b)
		for range n {
			h := api.Held{Key: slowKey(&b)}
			h.Until, h.Outcome = slowInt(&b), slowInt(&b)
			h.Thanked = b[0] == 1
			b = b[1:]
			l.runs = append(l.runs, h)
		}
	}
	for _, b := range found.Records {
		switch slowInt(&b) {
		case 1:
			h := api.Held{Key: slowKey(&b)}
			h.Until = slowInt(&b)
			l.runs = append(l.runs, h)
		case 2:
			k := slowKey(&b)
			l.runs[l.find(k)].Outcome = slowInt(&b)
		case 3:
			l.runs[l.find(slowKey(&b))].Thanked = true
		case 4:
			l.lift(slowInt(&b))
		}
	}
	sorted := l.all()
	n := 0
	for _, h := range sorted {
		if h.Outcome == 0 {
			if e := l.slowWrite(false, 2, h.Key, api.Interrupted); e != api.OK {
				return nil, e
			}
			l.runs[l.find(h.Key)].Outcome = api.Interrupted
			n++
		}
	}
	if n > 0 {
		if e := log.Sync(); e != api.OK {
			return nil, e
		}
	}
	return l, api.OK
}

func slowInt(b *[]byte) int {
	n, size := binary.Varint(*b)
	*b = (*b)[size:]
	return int(n)
}

func slowNumber(b *[]byte) (int, int) {
	n, size := binary.Uvarint(*b)
	*b = (*b)[size:]
	return int(n), size
}

func slowKey(b *[]byte) api.Key {
	n, _ := slowNumber(b)
	k := api.Key{Job: string((*b)[:n])}
	*b = (*b)[n:]
	k.Occ = slowInt(b)
	k.Host = slowInt(b)
	return k
}

func (l *slowLedger) lift(t int) {
	l.mark = t
	l.runs = slices.DeleteFunc(l.runs, func(h api.Held) bool { return h.Thanked && h.Key.Occ < t })
}

func (l *slowLedger) all() []api.Held {
	sorted := slices.Clone(l.runs)
	slices.SortFunc(sorted, func(a, b api.Held) int { return cmp.Compare(a.Key.Host, b.Key.Host) })
	slices.SortStableFunc(sorted, func(a, b api.Held) int { return cmp.Compare(a.Key.Job, b.Key.Job) })
	slices.SortStableFunc(sorted, func(a, b api.Held) int { return cmp.Compare(a.Key.Occ, b.Key.Occ) })
	return sorted
}

func (l *slowLedger) begin(k api.Key, until int) api.Errno {
	isJob := len(k.Job) > 0 && len(k.Job) <= 32
	for _, c := range k.Job {
		isJob = isJob && (c >= 'a' && c <= 'z')
	}
	if !isJob || k.Occ < first || k.Occ > end || k.Occ%60 != 0 || k.Host < 0 || k.Host > 65535 || until < first || until > end {
		return api.ErrArg
	}
	if k.Occ < l.mark {
		return api.ErrOrder
	}
	if l.find(k) >= 0 {
		return api.ErrTwice
	}
	if len(l.runs) >= 512 {
		return api.ErrFull
	}
	e := l.slowWrite(true, 1, k, until)
	if e == api.OK {
		l.runs = append(l.runs, api.Held{Key: k, Until: until})
	}
	return e
}

func (l *slowLedger) end(k api.Key, outcome int) api.Errno {
	if outcome < 1 || outcome > 4 {
		return api.ErrArg
	}
	i := l.find(k)
	if i < 0 {
		return api.ErrNone
	}
	if l.runs[i].Outcome != 0 {
		return api.ErrTwice
	}
	e := l.slowWrite(true, 2, k, outcome)
	if e == api.OK {
		l.runs[i].Outcome = outcome
	}
	return e
}

func (l *slowLedger) thank(k api.Key) api.Errno {
	i := l.find(k)
	if i < 0 {
		return api.ErrNone
	}
	if l.runs[i].Outcome == 0 {
		return api.ErrOrder
	}
	if l.runs[i].Thanked {
		return api.OK
	}
	e := l.slowWrite(false, 3, k)
	if e == api.OK {
		l.runs[i].Thanked = true
	}
	return e
}

func (l *slowLedger) forget(t int) api.Errno {
	if t < first || t > end {
		return api.ErrArg
	}
	if t <= l.mark {
		return api.OK
	}
	e := l.slowWrite(true, 4, t)
	if e == api.OK {
		l.lift(t)
	}
	return e
}

// twins is a ledger and a slow one, each on its disk; nil, if they could not be opened.
type twins struct {
	disk, slowDisk *store.Store
	size           int
	l              *Ledger
	slow           *slowLedger
}

func (w *twins) open(t *testing.T) {
	t.Helper()
	l, e := Open(w.disk, w.size)
	slow, slowE := slowOpen(w.slowDisk, w.size)
	wants(t, "Open", e, slowE)
	if (l == nil) != (e != api.OK) {
		t.Error("Open", e)
	}
	w.l, w.slow = l, slow
}

// each does something to both disks.
func (w *twins) each(do func(s *store.Store)) {
	do(w.disk)
	do(w.slowDisk)
}

func (w *twins) mustBeSame(t *testing.T) {
	t.Helper()
	same := func(a, b api.Stored) bool {
		return a.Name == b.Name && a.Sure == b.Sure && bytes.Equal(a.Bytes, b.Bytes)
	}
	if !slices.EqualFunc(w.disk.List(), w.slowDisk.List(), same) || w.disk.Off() != w.slowDisk.Off() {
		t.Error("the disks", w.disk.List(), w.slowDisk.List())
	}
	if w.l != nil && w.slow != nil {
		mustHave(t, "held", w.l, w.slow.mark, w.slow.all()...)
		if w.l.Records() != w.slow.log.Next() {
			t.Error("Records", w.l.Records(), w.slow.log.Next())
		}
	}
}

func randomKey(r *rand.Rand) api.Key {
	k := key([]string{"a", "b", "ab"}[r.Intn(3)], 60*r.Intn(8), r.Intn(3))
	switch r.Intn(40) {
	case 0:
		k.Occ++
	case 1:
		k.Host = -1
	case 2:
		k.Job = "a b"
	}
	return k
}

// call makes one call of both.
func (w *twins) call(t *testing.T, r *rand.Rand) {
	t.Helper()
	k := randomKey(r)
	switch n := r.Intn(40); {
	case n < 12:
		until := r.Intn(100) + r.Intn(30)/29*end // now and then none
		wants(t, "Begin", w.l.Begin(k, until), w.slow.begin(k, until))
	case n < 22:
		outcome := r.Intn(20)%4 + 1 + r.Intn(20)/19*4
		wants(t, "End", w.l.End(k, outcome), w.slow.end(k, outcome))
	case n < 30:
		wants(t, "Thank", w.l.Thank(k), w.slow.thank(k))
	case n < 33:
		mark := r.Intn(500) + r.Intn(10)/9*end
		wants(t, "Forget", w.l.Forget(mark), w.slow.forget(mark))
	case n < 35:
		wants(t, "Compact", w.l.Compact(), w.slow.log.Snapshot(stateOf(w.slow.mark, w.slow.all()...)))
	case n < 36:
		steps := r.Intn(12)
		w.each(func(s *store.Store) { s.Stop(steps) })
	case n < 37:
		w.open(t)
	}
}

func (w *twins) crash(t *testing.T, r *rand.Rand) {
	t.Helper()
	var kept []api.Kept
	for _, f := range w.disk.List() {
		kept = append(kept, api.Kept{Name: f.Name, Bytes: r.Intn(len(f.Bytes) - f.Sure + 1)})
	}
	w.each(func(s *store.Store) { wants(t, "a crash", s.Crash(kept), api.OK) })
	w.open(t)
}

func TestAgainstSlow(t *testing.T) {
	for seed := range int64(400) {
		r := rand.New(rand.NewSource(seed))
		room := 200 + r.Intn(4000)
		w := &twins{disk: disk(t, room), slowDisk: disk(t, room), size: 1 + r.Intn(300)}
		w.open(t)
		for range 150 {
			if w.l == nil || w.slow == nil || r.Intn(40) == 0 {
				w.crash(t, r)
			} else {
				w.call(t, r)
			}
			w.mustBeSame(t)
			if t.Failed() {
				t.Fatal(seed)
			}
		}
	}
}
