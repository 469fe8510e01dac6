package book

import (
	"slices"

	"reveille/api"
	"reveille/plan"
)

// Apply has a fact be so.
func (b *Book) Apply(f api.Fact) api.Errno {
	if b.closed() {
		return api.ErrClosed
	}
	switch f.Kind {
	case api.FactEdit:
		return b.catalog.Apply(f.Edit)
	case api.FactExpand:
		return b.add(f, b.expand)
	case api.FactMissed:
		return b.add(f, b.miss)
	case api.FactSent:
		return b.step(f.Key, true, isWaiting, func(s *api.Step) { s.State = api.StepSent })
	case api.FactDone:
		return b.step(f.Key, isOutcome(f.Outcome), isSent, func(s *api.Step) {
			s.State, s.Outcome = api.StepDone, f.Outcome
		})
	case api.FactSkip:
		return b.step(f.Key, isReason(f.Reason), isOpen, func(s *api.Step) {
			s.State, s.Reason = api.StepSkipped, f.Reason
		})
	case api.FactRetain:
		return b.retain(f.At)
	}
	return api.ErrArg
}

// add lays an occurrence of a job, as fill makes it, in its place among the others.
func (b *Book) add(f api.Fact, fill func(o *api.Occurrence) api.Errno) api.Errno {
	entry, known := b.catalog.Entry(f.Job)
	if !known {
		return api.ErrNone
	}
	place, there := b.find(f.Job, f.Occ)
	if there {
		return api.ErrTwice
	}
	o := api.Occurrence{Job: entry.Job, Version: entry.Version, Occ: f.Occ}
	if !isMoment(f.Occ) || fill(&o) != api.OK {
		return api.ErrArg
	}
	if len(b.occs) >= api.MaxOccs {
		return api.ErrFull
	}
	b.occs = slices.Insert(b.occs, place, o)
	return api.OK
}

// expand gives an occurrence its runs.
func (b *Book) expand(o *api.Occurrence) api.Errno {
	runs, e := plan.Runs(o.Job, o.Version, o.Occ, b.catalog.Chosen(o.Job))
	for _, r := range runs {
		o.Steps = append(o.Steps, api.Step{Run: r, State: api.StepWaiting})
	}
	return e
}

func (b *Book) miss(o *api.Occurrence) api.Errno {
	o.Missed = true
	return api.OK
}

// step makes a change of a run, if what it is to be may be, and it is one of those that may become so.
func (b *Book) step(k api.Key, may bool, from func(s api.Step) bool, change func(s *api.Step)) api.Errno {
	place, there := b.find(k.Job, k.Occ)
	if !there {
		return api.ErrNone
	}
	steps := b.occs[place].Steps
	i := findStep(steps, k.Host)
	switch {
	case i < 0:
		return api.ErrNone
	case !may:
		return api.ErrArg
	case !from(steps[i]):
		return api.ErrOrder
	}
	change(&steps[i])
	return api.OK
}

// retain forgets the occurrences ahead of a time that are over.
func (b *Book) retain(at int) api.Errno {
	if !isTime(at) {
		return api.ErrArg
	}
	b.occs = slices.DeleteFunc(b.occs, func(o api.Occurrence) bool { return o.Occ < at && isOver(o) })
	return api.OK
}

func isWaiting(s api.Step) bool { return s.State == api.StepWaiting }

func isSent(s api.Step) bool { return s.State == api.StepSent }

func isOpen(s api.Step) bool { return isWaiting(s) || isSent(s) }

func isOutcome(n int) bool { return n >= api.Good && n <= api.Interrupted }

func isReason(n int) bool { return n >= api.ReasonOld && n <= api.ReasonLost }
