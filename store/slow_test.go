package store

import (
	"bytes"
	"math/rand"
	"slices"
	"strings"
	"testing"

	"reveille/api"
)

// The slow store goes by the chapter's words: of each byte it is known whether it is sure.

type slowByte struct {
	is   byte
	sure bool
}

type slowFile struct {
	name    string
	all     []slowByte
	wasSure bool
}

type slowStore struct {
	files    []slowFile
	room     int
	off      bool
	stopping bool
	calls    int
}

func (s *slowStore) place(name string) int {
	return slices.IndexFunc(s.files, func(f slowFile) bool { return f.name == name })
}

func (s *slowStore) free() int {
	free := s.room
	for _, f := range s.files {
		free -= len(f.all)
	}
	return free
}

func slowMay(name string) bool {
	const may = "abcdefghijklmnopqrstuvwxyz0123456789.-"
	return len(name) >= 1 && len(name) <= 24 && strings.Trim(name, may) == ""
}

func (s *slowStore) first(may bool) api.Errno {
	if !may {
		return api.ErrArg
	}
	if s.off {
		return api.ErrOff
	}
	return api.OK
}

// firstOf is what is answered ahead of what is done to a file, and its place.
func (s *slowStore) firstOf(name string, may bool) (int, api.Errno) {
	i := s.place(name)
	e := s.first(may && slowMay(name))
	if e == api.OK && i < 0 {
		e = api.ErrNone
	}
	return i, e
}

func (s *slowStore) count() api.Errno {
	if s.stopping {
		s.calls--
		s.off = s.calls == 0
	}
	return api.OK
}

func (s *slowStore) add(name string, b []byte) api.Errno {
	if e := s.first(slowMay(name)); e != api.OK {
		return e
	}
	if s.place(name) < 0 && len(s.files) == 64 || len(b) > s.free() {
		return api.ErrFull
	}
	if s.place(name) < 0 {
		s.files = append(s.files, slowFile{name: name})
	}
	f := &s.files[s.place(name)]
	for _, c := range b {
		f.all = append(f.all, slowByte{is: c})
	}
	return s.count()
}

func (s *slowStore) sync(name string) api.Errno {
	i, e := s.firstOf(name, true)
	if e != api.OK {
		return e
	}
	s.files[i].makeSure()
	return s.count()
}

func (f *slowFile) makeSure() {
	f.wasSure = true
	for i := range f.all {
		f.all[i].sure = true
	}
}

func (s *slowStore) cut(name string, n int) api.Errno {
	i, e := s.firstOf(name, n >= 0)
	if e != api.OK {
		return e
	}
	f := &s.files[i]
	f.wasSure = true
	for len(f.all) > n {
		f.all = f.all[:len(f.all)-1]
	}
	return s.count()
}

func (s *slowStore) rename(from, to string) api.Errno {
	i, e := s.firstOf(from, slowMay(to))
	if e != api.OK {
		return e
	}
	f := s.files[i]
	f.makeSure()
	f.name = to
	s.files = slices.DeleteFunc(s.files, func(f slowFile) bool { return f.name == from || f.name == to })
	s.files = append(s.files, f)
	return s.count()
}

func (s *slowStore) remove(name string) api.Errno {
	i, e := s.firstOf(name, true)
	if e != api.OK {
		return e
	}
	s.files = slices.Delete(s.files, i, i+1)
	return s.count()
}

func (s *slowStore) read(name string) ([]byte, api.Errno) {
	i, e := s.firstOf(name, true)
	if e != api.OK {
		return nil, e
	}
	var all []byte
	for _, b := range s.files[i].all {
		all = append(all, b.is)
	}
	return all, api.OK
}

func (s *slowStore) stop(n int) {
	if !s.off {
		s.stopping, s.calls, s.off = n >= 0, n, n == 0
	}
}

func (s *slowStore) crash(l []api.Kept) api.Errno {
	var left []slowFile
	for i, kept := range l {
		place := s.place(kept.Name)
		if place < 0 || kept.Bytes < 0 || kept.Bytes > s.files[place].unsure() {
			return api.ErrArg
		}
		for _, other := range l[:i] {
			if other.Name == kept.Name {
				return api.ErrArg
			}
		}
	}
	for _, f := range s.files {
		last := 0
		for _, kept := range l {
			if kept.Name == f.name {
				last = kept.Bytes
			}
		}
		f.all = f.all[:len(f.all)-f.unsure()+last]
		if len(f.all) > 0 || f.wasSure {
			f.makeSure()
			left = append(left, f)
		}
	}
	s.files, s.off, s.stopping = left, false, false
	return api.OK
}

func (f slowFile) unsure() int {
	n := 0
	for _, b := range f.all {
		if !b.sure {
			n++
		}
	}
	return n
}

func (s *slowStore) damage(name string, at int, to byte) api.Errno {
	i := s.place(name)
	switch {
	case !slowMay(name) || at < 0:
		return api.ErrArg
	case i < 0:
		return api.ErrNone
	case at >= len(s.files[i].all):
		return api.ErrArg
	}
	s.files[i].all[at].is = to
	return api.OK
}

func (s *slowStore) list() []api.Stored {
	var l []api.Stored
	for _, f := range s.files {
		stored := api.Stored{Name: f.name, Sure: len(f.all) - f.unsure()}
		for _, b := range f.all {
			stored.Bytes = append(stored.Bytes, b.is)
		}
		l = append(l, stored)
	}
	slices.SortFunc(l, func(a, b api.Stored) int { return strings.Compare(a.Name, b.Name) })
	return l
}

func same(a, b api.Stored) bool {
	return a.Name == b.Name && a.Sure == b.Sure && bytes.Equal(a.Bytes, b.Bytes)
}

// pick is a name: mostly one of a few, seldom one that may not be.
func pick(r *rand.Rand, few int) string {
	if r.Intn(40) == 0 {
		return badNames()[r.Intn(len(badNames()))]
	}
	return strings.Repeat("n", 1+r.Intn(few)/9) + string("a.-0123bz"[r.Intn(9)])
}

func randomBytes(r *rand.Rand, most int) []byte {
	b := make([]byte, r.Intn(most+1))
	r.Read(b)
	return b
}

// randomKept is of some files some of their bytes; seldom it may not be.
func randomKept(r *rand.Rand, l []api.Stored) []api.Kept {
	var kept []api.Kept
	for _, i := range r.Perm(len(l)) {
		if r.Intn(2) == 0 {
			kept = append(kept, api.Kept{Name: l[i].Name, Bytes: r.Intn(len(l[i].Bytes) - l[i].Sure + 1)})
		}
	}
	switch r.Intn(12) {
	case 0:
		kept = append(kept, api.Kept{Name: pick(r, 9), Bytes: r.Intn(3)})
	case 1:
		if len(kept) > 0 {
			kept[r.Intn(len(kept))].Bytes = r.Intn(12) - 2
		}
	}
	return kept
}

// step does the same to both.
func step(r *rand.Rand, s *Store, slow *slowStore, few int) (string, api.Errno, api.Errno) {
	name, to := pick(r, few), pick(r, few)
	switch r.Intn(20) {
	case 0, 1, 2:
		return "Sync", s.Sync(name), slow.sync(name)
	case 3, 4:
		n := r.Intn(30) - 1
		return "Cut", s.Cut(name, n), slow.cut(name, n)
	case 5, 6:
		return "Rename", s.Rename(name, to), slow.rename(name, to)
	case 7:
		return "Remove", s.Remove(name), slow.remove(name)
	case 8:
		at, c := r.Intn(20)-1, byte(r.Intn(256))
		return "Damage", s.Damage(name, at, c), slow.damage(name, at, c)
	case 9, 10:
		kept := randomKept(r, slow.list())
		return "Crash", s.Crash(kept), slow.crash(kept)
	case 11:
		n := r.Intn(9) - 1
		s.Stop(n)
		slow.stop(n)
		return "Stop", api.OK, api.OK
	}
	b := randomBytes(r, 12)
	return "Append", s.Append(name, b), slow.add(name, b)
}

// P7.1 to P7.5

func TestAsTheSlowOne(t *testing.T) {
	for seed := range int64(60) {
		r := rand.New(rand.NewSource(seed))
		room, few := r.Intn(400), 9
		if seed%3 == 0 {
			// So many names that there are too many files.
			room, few = 5000, 9*8
		}
		s, slow := made(t, room), &slowStore{room: room}
		for i := range 1500 {
			if r.Intn(20) == 0 {
				s = s.Fork()
			}
			call, got, want := step(r, s, slow, few)
			if got != want {
				t.Fatalf("%d, %d: %s: %d, not %d", seed, i, call, got, want)
			}
			if !slices.EqualFunc(s.List(), slow.list(), same) || s.Room() != slow.free() || s.Off() != slow.off {
				t.Fatalf("%d, %d: behind %s: %v, not %v", seed, i, call, s.List(), slow.list())
			}
			name := pick(r, few)
			b, e := s.Read(name)
			wantB, want := slow.read(name)
			if e != want || !bytes.Equal(b, wantB) {
				t.Fatalf("%d, %d: Read %q: %X %d, not %X %d", seed, i, name, b, e, wantB, want)
			}
		}
	}
}

// P7.5

func TestWhatWasSureOutlasts(t *testing.T) {
	for seed := range int64(40) {
		r := rand.New(rand.NewSource(seed))
		s := made(t, 600)
		sure := map[string][]byte{}
		for range 800 {
			name, to := pick(r, 9), pick(r, 9)
			b, _ := s.Read(name)
			switch r.Intn(12) {
			case 0, 1, 2:
				if s.Sync(name) == api.OK {
					sure[name] = b
				}
			case 3:
				n := r.Intn(40)
				if s.Cut(name, n) == api.OK {
					sure[name] = sure[name][:min(n, len(sure[name]))]
				}
			case 4:
				if s.Rename(name, to) == api.OK {
					delete(sure, name)
					sure[to] = b
				}
			case 5:
				if s.Remove(name) == api.OK {
					delete(sure, name)
				}
			case 6, 7:
				s.Crash(randomKept(r, s.List()))
			case 8:
				s.Stop(r.Intn(9))
			default:
				s.Append(name, randomBytes(r, 12))
			}
			for name, want := range sure {
				l := s.List()
				i := slices.IndexFunc(l, func(f api.Stored) bool { return f.Name == name })
				if i < 0 || !bytes.HasPrefix(l[i].Bytes[:l[i].Sure], want) {
					t.Fatalf("%d: %s has not %X: %v", seed, name, want, l)
				}
			}
		}
	}
}
