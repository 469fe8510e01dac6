package book

import (
	"bytes"
	"fmt"
	"math/rand"
	"slices"
	"strconv"
	"testing"

	"reveille/api"
	"reveille/catalog"
	"reveille/job"
	"reveille/pack"
	"reveille/plan"
)

// The slow book goes by the chapter's words: a list that is gone through, and sorted where it is told.

type slowBook struct {
	c    *catalog.Catalog
	occs []api.Occurrence
}

func (s *slowBook) at(name string, occ int) int {
	for i, o := range s.occs {
		if o.Job.Name == name && o.Occ == occ {
			return i
		}
	}
	return -1
}

func (s *slowBook) over(i int) bool {
	for _, step := range s.occs[i].Steps {
		if step.State == api.StepWaiting || step.State == api.StepSent {
			return false
		}
	}
	return true
}

func (s *slowBook) apply(f api.Fact) api.Errno {
	switch f.Kind {
	case api.FactEdit:
		return s.c.Apply(f.Edit)
	case api.FactExpand, api.FactMissed:
		return s.add(f)
	case api.FactSent, api.FactDone, api.FactSkip:
		return s.change(f)
	case api.FactRetain:
		if f.At < api.MinTime || f.At > api.MaxTime {
			return api.ErrArg
		}
		var left []api.Occurrence
		for i, o := range s.occs {
			if o.Occ >= f.At || !s.over(i) {
				left = append(left, o)
			}
		}
		s.occs = left
		return api.OK
	}
	return api.ErrArg
}

func (s *slowBook) add(f api.Fact) api.Errno {
	var entry api.Entry
	is := false
	for e := range s.c.Entries() {
		if e.Job.Name == f.Job {
			entry, is = e, true
		}
	}
	if !is {
		return api.ErrNone
	}
	if s.at(f.Job, f.Occ) >= 0 {
		return api.ErrTwice
	}
	o := api.Occurrence{Job: entry.Job, Version: entry.Version, Occ: f.Occ, Missed: f.Kind == api.FactMissed}
	if f.Occ < api.MinTime || f.Occ > api.MaxTime || f.Occ%60 != 0 {
		return api.ErrArg
	}
	if !o.Missed {
		runs, e := plan.Runs(o.Job, o.Version, o.Occ, s.c.Chosen(o.Job))
		if e != api.OK {
			return api.ErrArg
		}
		for _, run := range runs {
			o.Steps = append(o.Steps, api.Step{Run: run, State: api.StepWaiting})
		}
	}
	if len(s.occs) == 512 {
		return api.ErrFull
	}
	s.occs = append(s.occs, o)
	return api.OK
}

func (s *slowBook) change(f api.Fact) api.Errno {
	for i := range s.occs {
		for n := range s.occs[i].Steps {
			step := &s.occs[i].Steps[n]
			if step.Run.Key != f.Key {
				continue
			}
			bad := f.Kind == api.FactDone && (f.Outcome < 1 || f.Outcome > 4) || f.Kind == api.FactSkip && (f.Reason < 1 || f.Reason > 7)
			state := step.State
			switch {
			case bad:
				return api.ErrArg
			case f.Kind == api.FactSent && state == 1:
				step.State = 2
			case f.Kind == api.FactDone && state == 2:
				step.State, step.Outcome = 3, f.Outcome
			case f.Kind == api.FactSkip && (state == 1 || state == 2):
				step.State, step.Reason = 4, f.Reason
			default:
				return api.ErrOrder
			}
			return api.OK
		}
	}
	return api.ErrNone
}

func (s *slowBook) state() state {
	occs := slices.Clone(s.occs)
	slices.SortFunc(occs, func(a, b api.Occurrence) int {
		if a.Occ != b.Occ {
			return a.Occ - b.Occ
		}
		return bytes.Compare([]byte(a.Job.Name), []byte(b.Job.Name))
	})
	is := state{version: s.c.Version(), entries: slices.Collect(s.c.Entries()), hosts: slices.Collect(s.c.Hosts()), occs: occs, length: len(occs)}
	for i, o := range s.occs {
		if s.over(i) {
			continue
		}
		is.open++
		if !is.is || o.Occ < is.oldest {
			is.oldest, is.is = o.Occ, true
		}
	}
	return is
}

func (s *slowBook) status(k api.Key) api.Status {
	for _, o := range s.occs {
		if o.Job.Name == k.Job && o.Occ == k.Occ && o.Missed && k.Host >= 0 && k.Host <= 65535 {
			return api.Status{State: api.StepSkipped, Reason: api.ReasonMissed, Known: true}
		}
		for _, step := range o.Steps {
			if step.Run.Key == k {
				return api.Status{State: step.State, Outcome: step.Outcome, Reason: step.Reason, Known: true}
			}
		}
	}
	return api.Status{}
}

func anyKey(r *rand.Rand) api.Key {
	k := key(string(rune('a'+r.Intn(4))), 60*r.Intn(6)-120, r.Intn(6))
	switch r.Intn(40) {
	case 0:
		k.Occ++
	case 1:
		k.Host = []int{-1, 65535, 65536}[r.Intn(3)]
	case 2:
		k.Occ = []int{first, last - 59, last + 1}[r.Intn(3)]
	}
	return k
}

func anyEdit(t *testing.T, r *rand.Rand) api.Edit {
	k := anyKey(r)
	e := api.Edit{Kind: 1 + r.Intn(6), Name: k.Job, At: k.Occ, Host: api.Host{Number: k.Host, Boot: r.Intn(4)}}
	switch r.Intn(3) {
	case 0:
		e.Host.Labels = []api.Label{{Key: "os", Value: "x"}}
	case 1:
		e.Kind = api.EditPut
	}
	selects := []string{"", "; select=os=x", "; select=!os"}
	e.Job = jobOf(t, k.Job+": * * * * *; wave="+strconv.Itoa(r.Intn(3))+"; jitter="+strconv.Itoa(r.Intn(9))+selects[r.Intn(3)])
	if r.Intn(20) == 0 {
		e.Job.Deadline = 0
	}
	return e
}

// aRun is the key of a run that the slow book has, or any one.
func (s *slowBook) aRun(r *rand.Rand) api.Key {
	if len(s.occs) > 0 && r.Intn(4) > 0 {
		o := s.occs[r.Intn(len(s.occs))]
		if len(o.Steps) > 0 {
			return o.Steps[r.Intn(len(o.Steps))].Run.Key
		}
	}
	return anyKey(r)
}

func anyFact(t *testing.T, r *rand.Rand, s *slowBook) api.Fact {
	k := anyKey(r)
	f := api.Fact{Kind: 2 + r.Intn(5), Job: k.Job, Occ: k.Occ, Key: s.aRun(r), Outcome: r.Intn(60), Reason: r.Intn(60), At: k.Occ}
	if r.Intn(8) > 0 {
		f.Outcome, f.Reason = 1+f.Outcome%4, 1+f.Reason%7
	}
	switch r.Intn(16) {
	case 0:
		f.Kind = api.FactEdit
		f.Edit = anyEdit(t, r)
	case 1:
		f.Kind = r.Intn(10)
	}
	return f
}

// mayPack: is it a fact that may be taken again?
func mayPack(f api.Fact) bool {
	if f.Kind != api.FactEdit {
		return f.Kind >= 1 && f.Kind <= 7
	}
	return f.Edit.Kind >= 1 && f.Edit.Kind <= 5 && (f.Edit.Kind != api.EditPut || job.May(f.Edit.Job))
}

// What a book tells is what the chapter's words say, also where it is packed, or forked, on its way.
func TestAsSlow(t *testing.T) {
	oks := map[int]int{}
	for seed := range int64(60) {
		r := rand.New(rand.NewSource(seed))
		b, slow := New(), &slowBook{c: catalog.New()}
		for range 6 {
			e := anyEdit(t, r)
			e.Kind = api.EditPut
			b.Apply(api.Fact{Kind: api.FactEdit, Edit: e})
			slow.apply(api.Fact{Kind: api.FactEdit, Edit: e})
			h := api.Edit{Kind: api.EditHost, Host: api.Host{Number: r.Intn(6), Boot: 1}}
			b.Apply(api.Fact{Kind: api.FactEdit, Edit: h})
			slow.apply(api.Fact{Kind: api.FactEdit, Edit: h})
		}
		for range 500 {
			f := anyFact(t, r, slow)
			if mayPack(f) {
				p := pack.New()
				Put(p, f)
				code, _ := p.Done()
				var ok bool
				if f, ok = Take(pack.Read(code)); !ok {
					t.Fatal("Take", f)
				}
			}
			got, want := b.Apply(f), slow.apply(f)
			if got != want {
				t.Fatal(seed, f, got, want)
			}
			if got == api.OK {
				oks[f.Kind]++
			}
			k := anyKey(r)
			if b.Status(k) != slow.status(k) {
				t.Fatal(seed, k, b.Status(k), slow.status(k))
			}
			switch r.Intn(20) {
			case 0:
				b = b.Fork()
			case 1:
				b = Unpack(pack.Read(bookBytes(t, b)))
			case 2:
				mustBe(t, fmt.Sprint(seed), stateOf(b), slow.state())
			}
			if t.Failed() {
				t.FailNow()
			}
		}
		mustBe(t, fmt.Sprint(seed), stateOf(b), slow.state())
	}
	for kind := 1; kind <= 7; kind++ {
		if oks[kind] < 100 {
			t.Error("too few of", kind, oks[kind])
		}
	}
}
