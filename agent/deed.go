package agent

import (
	"iter"

	"reveille/api"
	"reveille/wire"
)

// messages goes over the bodies that are messages.
func messages(bodies [][]byte) iter.Seq[api.Message] {
	return func(yield func(api.Message) bool) {
		for _, b := range bodies {
			m, e := wire.Decode(b)
			if e == api.OK && !yield(m) {
				return
			}
		}
	}
}

// deedOf is what is done of a kind of messages, and tells what happened by it.
func (a *Agent) deedOf(kind int) func(m api.Message, now int) []api.Event {
	switch kind {
	case api.MsgDispatch:
		return a.dispatch
	case api.MsgThanks:
		return a.thank
	case api.MsgForget:
		return a.forget
	}
	return func(api.Message, int) []api.Event { return nil }
}

// dispatch begins a run, or tells why it does not.
func (a *Agent) dispatch(m api.Message, now int) []api.Event {
	if _, held := a.ledger.Get(m.Key); held || m.Key.Host != a.config.Host {
		return nil
	}
	if reason := a.reasonAgainst(m, now); reason != 0 {
		a.refuse(m.Key, reason)
		return nil
	}
	// The disk must have it for sure ahead of the run: else a crash could let it begin twice.
	switch a.heed(a.ledger.Begin(m.Key, m.Until)) {
	case api.OK:
	case api.ErrFull:
		a.refuse(m.Key, api.ReasonFull)
		return nil
	default:
		return nil
	}
	if a.exec.Start(m.Key, m.Until, now) != api.OK {
		return nil
	}
	return []api.Event{{Kind: api.EventStart, Key: m.Key, At: now, Version: m.Version}}
}

// reasonAgainst is the first reason why a run is not begun, as far as the disk is not asked; 0, if there is none.
func (a *Agent) reasonAgainst(m api.Message, now int) int {
	switch {
	case m.Key.Occ < a.ledger.Mark():
		return api.ReasonOld
	case m.Until <= now:
		return api.ReasonLate
	case m.At > now, a.exec.Free() == 0:
		return api.ReasonBusy
	}
	return 0
}

func (a *Agent) refuse(k api.Key, reason int) {
	a.mail.tell(api.Message{Kind: api.MsgRefuse, Key: k, Reason: reason})
}

// thank lets a result be told no more.
func (a *Agent) thank(m api.Message, _ int) []api.Event {
	if a.heed(a.ledger.Thank(m.Key)) == api.OK {
		a.mail.drop(m.Key)
	}
	return nil
}

func (a *Agent) forget(m api.Message, _ int) []api.Event {
	a.heed(a.ledger.Forget(m.At))
	return nil
}

// end hands a run's end to the ledger, and tells it: it has ended, whether the ledger takes that or not.
func (a *Agent) end(k api.Key, outcome, now int) api.Event {
	if a.heed(a.ledger.End(k, outcome)) == api.ErrFull {
		a.ends = append(a.ends, end{key: k, outcome: outcome})
	}
	return api.Event{Kind: api.EventEnd, Key: k, At: now, Outcome: outcome}
}

// endAgain hands the ends that the ledger had no room for to it again.
func (a *Agent) endAgain() {
	var left []end
	for _, one := range a.ends {
		if a.heed(a.ledger.End(one.key, one.outcome)) != api.OK {
			left = append(left, one)
		}
	}
	a.ends = left
}
