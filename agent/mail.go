package agent

import (
	"slices"

	"reveille/api"
	"reveille/session"
	"reveille/wire"
)

// mail is what is told to the controller.
type mail struct {
	session *session.Session
	left    [][]byte             // what is to be told, and was not handed to the session yet, in order
	results map[api.Key]struct{} // the runs whose result is told in this session
	beat    int                  // from when on the next beat is told
}

func newMail(s *session.Session) mail {
	return mail{session: s, results: map[api.Key]struct{}{}, beat: api.MinTime}
}

// begin begins with a controller that is known anew, who must know first who this is.
func (m *mail) begin(register api.Message) {
	// What was left for the one ahead is gone with what was out: results are told again, and runs dispatched.
	m.left = nil
	clear(m.results)
	m.tell(register)
}

// tell lays a message behind those that are left; one that may not be is not told.
func (m *mail) tell(message api.Message) bool {
	b, e := wire.Encode(message)
	if e != api.OK {
		return false
	}
	m.left = append(m.left, b)
	return true
}

// tellDue tells that the host is there, if it is time, and what came of runs, of each once a session. While no controller is known, there is none to be told.
func (m *mail) tellDue(host, now, gap int, owed []api.Held) {
	if m.session.Yours() == 0 {
		return
	}
	if now >= m.beat && m.tell(api.Message{Kind: api.MsgBeat, Key: api.Key{Host: host}, At: now}) {
		m.beat = now + gap
	}
	for _, h := range owed {
		if _, was := m.results[h.Key]; was {
			continue
		}
		m.results[h.Key] = struct{}{}
		m.tell(api.Message{Kind: api.MsgResult, Key: h.Key, Outcome: h.Outcome})
	}
}

// drop forgets that a run's result was told.
func (m *mail) drop(k api.Key) { delete(m.results, k) }

// tick hands what is left to the session, as much as that takes, and is what that sends now.
func (m *mail) tick(now int) [][]byte {
	taken := 0
	for taken < len(m.left) && m.session.Send(m.left[taken]) == api.OK {
		taken++
	}
	m.left = slices.Delete(m.left, 0, taken)
	var sent [][]byte
	for _, envelope := range m.session.Tick(now) {
		if b, e := wire.Wrap(envelope); e == api.OK {
			sent = append(sent, b)
		}
	}
	return sent
}

// isDone: is nothing to be told, or on its way?
func (m *mail) isDone() bool { return len(m.left) == 0 && m.session.Pending() == 0 }
