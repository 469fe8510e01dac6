package wire

import (
	"reveille/api"
	"reveille/label"
)

// message is a message, with a method for each of its fields.
type message api.Message

// field does something to one field of a message.
type field func(m *message, d deed)

// fieldsOf is the fields that a kind of messages has, in order; none, if it is no kind.
func fieldsOf(kind int) []field {
	switch kind {
	case api.MsgRegister:
		return []field{(*message).host, (*message).boot, (*message).labels}
	case api.MsgBeat:
		return []field{(*message).host, (*message).at}
	case api.MsgResult:
		return []field{(*message).key, (*message).outcome}
	case api.MsgRefuse:
		return []field{(*message).key, (*message).reason}
	case api.MsgDispatch:
		return []field{(*message).key, (*message).version, (*message).at, (*message).until}
	case api.MsgThanks:
		return []field{(*message).key}
	case api.MsgForget:
		return []field{(*message).at}
	}
	return nil
}

// each does something to each of some fields, in order.
func (m *message) each(fields []field, d deed) {
	for _, do := range fields {
		do(m, d)
	}
}

func (m *message) key(d deed) {
	d.text(&m.Key.Job, mayJob)
	d.number(&m.Key.Occ, mayOcc)
	m.host(d)
}

func (m *message) host(d deed) { d.number(&m.Key.Host, mayHost) }

func (m *message) version(d deed) { d.number(&m.Version, mayBoot) }

func (m *message) at(d deed) { d.number(&m.At, mayTime) }

func (m *message) until(d deed) {
	d.number(&m.Until, func(n int) bool { return mayTime(n) && m.At <= n })
}

func (m *message) outcome(d deed) { d.number(&m.Outcome, mayOutcome) }

func (m *message) reason(d deed) { d.number(&m.Reason, mayReason) }

func (m *message) boot(d deed) { d.number(&m.Boot, mayBoot) }

func (m *message) labels(d deed) { d.list(&m.Labels, label.May) }

// zero: are all fields but the kind zero?
func (m *message) zero() bool {
	times := m.At == 0 && m.Until == 0
	counts := m.Version == 0 && m.Outcome == 0 && m.Reason == 0 && m.Boot == 0
	return m.Key == api.Key{} && times && counts && len(m.Labels) == 0
}

func mayJob(s string) bool { return label.Word(s) && len(s) <= api.MaxJob }

func mayOcc(n int) bool { return mayTime(n) && n%api.Minute == 0 }

func mayHost(n int) bool { return n >= 0 && n < api.MaxHosts }

func mayTime(n int) bool { return n >= api.MinTime && n <= api.MaxTime }

func mayBoot(n int) bool { return n >= 1 && n <= api.MaxBoot }

func mayOutcome(n int) bool { return n >= api.Good && n <= api.Interrupted }

func mayReason(n int) bool { return n >= api.ReasonOld && n <= api.ReasonLost }
