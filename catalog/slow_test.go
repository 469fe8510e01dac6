package catalog

import (
	"bytes"
	"fmt"
	"maps"
	"math/rand"
	"slices"
	"testing"

	"reveille/api"
	"reveille/job"
	"reveille/label"
	"reveille/pack"
)

// slow is a catalogue in maps, which are sorted where they are told.
type slow struct {
	version int
	entries map[string]api.Entry
	hosts   map[int]api.Host
}

func newSlow() *slow { return &slow{entries: map[string]api.Entry{}, hosts: map[int]api.Host{}} }

func (s *slow) apply(e api.Edit) api.Errno {
	isTime := e.At >= api.MinTime && e.At <= api.MaxTime
	switch e.Kind {
	case api.EditPut:
		if !job.May(e.Job) || !isTime {
			return api.ErrArg
		}
		if _, there := s.entries[e.Job.Name]; len(s.entries) == 256 && !there || s.version == 1<<31-1 {
			return api.ErrFull
		}
		s.version++
		s.entries[e.Job.Name] = api.Entry{Job: e.Job, Version: s.version, Since: e.At}
		return api.OK
	case api.EditDrop:
		if _, there := s.entries[e.Name]; !there {
			return api.ErrNone
		}
		if s.version == 1<<31-1 {
			return api.ErrFull
		}
		delete(s.entries, e.Name)
		s.version++
		return api.OK
	case api.EditMark:
		if !isTime {
			return api.ErrArg
		}
		entry, there := s.entries[e.Name]
		if !there {
			return api.ErrNone
		}
		if e.At > entry.Since {
			entry.Since = e.At
		}
		s.entries[e.Name] = entry
		return api.OK
	case api.EditHost:
		if e.Host.Number < 0 || e.Host.Number > 65535 || e.Host.Boot < 1 || e.Host.Boot > 1<<31-1 || !label.May(e.Host.Labels) {
			return api.ErrArg
		}
		was, there := s.hosts[e.Host.Number]
		if len(s.hosts) == 2048 && !there {
			return api.ErrFull
		}
		if there && was.Boot > e.Host.Boot {
			return api.ErrTwice
		}
		s.hosts[e.Host.Number] = e.Host
		return api.OK
	case api.EditGone:
		if _, there := s.hosts[e.Host.Number]; !there {
			return api.ErrNone
		}
		delete(s.hosts, e.Host.Number)
		return api.OK
	}
	return api.ErrArg
}

func (s *slow) state() state {
	out := state{version: s.version}
	for _, name := range slices.Sorted(maps.Keys(s.entries)) {
		out.entries = append(out.entries, s.entries[name])
	}
	for _, number := range slices.Sorted(maps.Keys(s.hosts)) {
		out.hosts = append(out.hosts, s.hosts[number])
	}
	return out
}

func (s *slow) chosen(j api.Job) []int {
	var numbers []int
	for number, h := range s.hosts {
		if label.Matches(j.Select, h.Labels) {
			numbers = append(numbers, number)
		}
	}
	slices.Sort(numbers)
	return numbers
}

// maker makes edits at random: of few names and numbers, so that they meet.
type maker struct {
	*rand.Rand
	jobs   []api.Job
	labels [][]api.Label
}

func newMaker(t *testing.T, seed int64) maker {
	m := maker{Rand: rand.New(rand.NewSource(seed))}
	for i := range 12 {
		name := fmt.Sprintf("%c%d", "aBz/"[i%4], i/4)
		m.jobs = append(m.jobs, named(t, name), whole(t, name), jobOf(t, name+": 0 0 29 2 *; select=os in (linux,bsd); wave=3"))
	}
	m.jobs = append(m.jobs, api.Job{}, api.Job{Name: "a0"})
	for _, labels := range [][]string{{}, {"os=linux"}, {"os=linux", "zone=b"}, {"gpu", "os=bsd"}, {"gpu", "os=linux", "zone=a"}, {"zone", "os"}, {"a", "a"}} {
		m.labels = append(m.labels, hostOf(0, 1, labels...).Labels)
	}
	return m
}

func (m maker) job() api.Job { return m.jobs[m.Intn(len(m.jobs))] }

func (m maker) time() int {
	if m.Intn(20) == 0 {
		return []int{api.MinTime - 1, api.MinTime, api.MaxTime, api.MaxTime + 1}[m.Intn(4)]
	}
	return m.Intn(1000) - 500
}

func (m maker) edit() api.Edit {
	return api.Edit{
		Kind: m.Intn(7),
		Job:  m.job(),
		Name: m.job().Name,
		At:   m.time(),
		Host: api.Host{Number: m.Intn(12) - 1, Boot: m.Intn(6), Labels: m.labels[m.Intn(len(m.labels))]},
	}
}

func TestSlow(t *testing.T) {
	done := map[api.Errno]int{}
	for seed := range int64(60) {
		m := newMaker(t, seed)
		c, s := New(), newSlow()
		for range 300 {
			e := m.edit()
			version := c.Version()
			got, want := c.Apply(e), s.apply(e)
			if got != want {
				t.Fatal(seed, e, got, want)
			}
			done[got]++
			if !sameState(stateOf(c), s.state()) {
				t.Fatal(seed, e, stateOf(c), s.state())
			}
			// P15.4: versions rise with each edit of jobs.
			risen := got == api.OK && (e.Kind == api.EditPut || e.Kind == api.EditDrop)
			if (c.Version() == version+1) != risen || (c.Version() == version) == risen {
				t.Fatal(seed, e, version, c.Version())
			}
			j := m.job()
			if got, want := c.Chosen(j), s.chosen(j); !slices.Equal(got, want) {
				t.Fatal(seed, j, got, want)
			}
			entry, there := c.Entry(j.Name)
			if want, ok := s.entries[j.Name]; there != ok || !sameEntry(entry, want) {
				t.Fatal(seed, entry, there, want, ok)
			}
			// From time to time another one goes on.
			switch m.Intn(20) {
			case 0:
				c = c.Fork()
			case 1:
				b := bytesOf(t, c)
				if want := packed(t, s.state()); !bytes.Equal(b, want) {
					t.Fatal(seed, b, want)
				}
				c = Get(pack.Read(b))
			}
		}
	}
	for _, e := range []api.Errno{api.OK, api.ErrArg, api.ErrNone, api.ErrTwice} {
		if done[e] < 100 {
			t.Error(e, done)
		}
	}
}

// TestSpoiltBytes: of bytes that were changed either nothing is got, or what is put to the same again but for the way in which texts of specs and selectors are written.
func TestSpoiltBytes(t *testing.T) {
	r := rand.New(rand.NewSource(1))
	whole := bytesOf(t, some(t))
	got := 0
	for range 100000 {
		b := slices.Clone(whole)
		for range 1 + r.Intn(2) {
			b[r.Intn(len(b))] = byte(r.Intn(256))
		}
		reader := pack.Read(b)
		c := Get(reader)
		if c == nil {
			continue
		}
		got++
		if reader.Failed() {
			t.Fatal("failed", b)
		}
		s := stateOf(c)
		mustBe(t, "again", Get(pack.Read(bytesOf(t, c))), s)
		if again := newSlow(); !again.takes(s) {
			t.Fatal("no such catalogue", s)
		}
	}
	if got < 1000 {
		t.Error("too few", got)
	}
}

// takes: is there, by edits, a catalogue of these?
func (s *slow) takes(want state) bool {
	for _, e := range want.entries {
		s.version = e.Version - 1
		if e.Version > want.version || s.apply(putting(e.Job, e.Since)) != api.OK {
			return false
		}
	}
	for _, h := range want.hosts {
		if s.apply(hosting(h)) != api.OK {
			return false
		}
	}
	s.version = want.version
	return sameState(s.state(), want)
}
