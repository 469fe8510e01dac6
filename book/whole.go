package book

import (
	"reveille/api"
	"reveille/catalog"
	"reveille/job"
	"reveille/pack"
)

// Pack packs the whole book.
func (b *Book) Pack(p *pack.Packer) {
	if b.closed() {
		return
	}
	b.catalog.Put(p)
	pack.PutList(p, b.occs, putOccurrence)
}

// Unpack reads a book that was packed; nil, if it is none.
func Unpack(r *pack.Reader) *Book {
	// All is read ahead of all judging: what may not be does not keep the reader from what is behind it.
	b := &Book{catalog: catalog.Get(r), occs: pack.GetList(r, takeOccurrence)}
	if r.Failed() || b.catalog == nil || !b.sound() {
		return nil
	}
	return b
}

func putOccurrence(p *pack.Packer, o api.Occurrence) {
	job.Put(p, o.Job)
	p.Int(o.Version)
	p.Int(o.Occ)
	p.Flag(o.Missed)
	pack.PutList(p, o.Steps, putStep)
}

func takeOccurrence(r *pack.Reader) api.Occurrence {
	o := api.Occurrence{Job: job.Get(r)}
	o.Version = r.Int()
	o.Occ = r.Int()
	o.Missed = r.Flag()
	o.Steps = pack.GetList(r, takeStep)
	for i := range o.Steps {
		run := &o.Steps[i].Run
		run.Key.Job, run.Key.Occ, run.Version = o.Job.Name, o.Occ, o.Version
	}
	return o
}

func putStep(p *pack.Packer, s api.Step) {
	for _, n := range stepNumbers(&s) {
		p.Int(*n)
	}
}

func takeStep(r *pack.Reader) api.Step {
	var s api.Step
	for _, n := range stepNumbers(&s) {
		*n = r.Int()
	}
	return s
}

// stepNumbers is what a step has beside its occurrence, in the order in which it is packed.
func stepNumbers(s *api.Step) []*int {
	return []*int{&s.Run.Key.Host, &s.Run.At, &s.Run.Until, &s.Run.Wave, &s.State, &s.Outcome, &s.Reason}
}

// sound: may the occurrences that were read be a book's?
func (b *Book) sound() bool {
	if len(b.occs) > api.MaxOccs {
		return false
	}
	for i, o := range b.occs {
		if i > 0 && placeOf(o).compare(placeOf(b.occs[i-1])) <= 0 {
			return false
		}
		if !job.May(o.Job) || o.Version < 1 || o.Version > b.catalog.Version() || !isMoment(o.Occ) || !soundSteps(o) {
			return false
		}
	}
	return true
}

// soundSteps: may these be the steps of an occurrence?
func soundSteps(o api.Occurrence) bool {
	if o.Missed {
		return len(o.Steps) == 0
	}
	hosts := map[int]struct{}{}
	for _, s := range o.Steps {
		host := s.Run.Key.Host
		if _, twice := hosts[host]; twice || !isHost(host) || !soundState(s) {
			return false
		}
		hosts[host] = struct{}{}
	}
	return true
}

// soundState: does a step say what came of its run where, and only where, something did?
func soundState(s api.Step) bool {
	if s.State < api.StepWaiting || s.State > api.StepSkipped {
		return false
	}
	return saidOnly(s.State == api.StepDone, s.Outcome, isOutcome) && saidOnly(s.State == api.StepSkipped, s.Reason, isReason)
}

// saidOnly: is n said, where it is to be, and else 0?
func saidOnly(said bool, n int, may func(n int) bool) bool {
	if said {
		return may(n)
	}
	return n == 0
}
