package agent

import (
	"testing"

	"reveille/api"
	"reveille/session"
	"reveille/store"
	"reveille/wire"
)

const (
	first, last = -62135596800, 253402300799
	room        = 1 << 20
)

func wants(t *testing.T, name string, got, want api.Errno) {
	t.Helper()
	if got != want {
		t.Errorf("%s: %d, not %d", name, got, want)
	}
}

func disk(t *testing.T, room int) *store.Store {
	t.Helper()
	s, e := store.New(room)
	if e != api.OK {
		t.Fatal("a store", e)
	}
	return s
}

func usual() api.AgentConfig {
	return api.AgentConfig{Host: 5, Labels: []api.Label{{Key: "os", Value: "linux"}}, Slots: 4, Size: 4096, Beat: 86400}
}

func opened(t *testing.T, c api.AgentConfig, s *store.Store) *Agent {
	t.Helper()
	a, e := Open(c, s)
	if e != api.OK || a == nil {
		t.Fatal("Open", e)
	}
	return a
}

func fresh(t *testing.T) (*Agent, *store.Store) {
	t.Helper()
	s := disk(t, room)
	return opened(t, usual(), s), s
}

func key(job string, occ int) api.Key { return api.Key{Job: job, Occ: occ, Host: 5} }

func dispatch(k api.Key, until int) api.Message {
	return api.Message{Kind: api.MsgDispatch, Key: k, Version: 3, At: min(k.Occ, until), Until: until}
}

func thanks(k api.Key) api.Message { return api.Message{Kind: api.MsgThanks, Key: k} }

func forget(at int) api.Message { return api.Message{Kind: api.MsgForget, At: at} }

func refusal(k api.Key, reason int) api.Message {
	return api.Message{Kind: api.MsgRefuse, Key: k, Reason: reason}
}

func result(k api.Key, outcome int) api.Message {
	return api.Message{Kind: api.MsgResult, Key: k, Outcome: outcome}
}

func beat(at int) api.Message {
	return api.Message{Kind: api.MsgBeat, Key: api.Key{Host: 5}, At: at}
}

func register(boot int) api.Message {
	return api.Message{Kind: api.MsgRegister, Key: api.Key{Host: 5}, Boot: boot, Labels: usual().Labels}
}

func started(k api.Key, at int) api.Event {
	return api.Event{Kind: api.EventStart, Key: k, At: at, Version: 3}
}

func finished(k api.Key, at, outcome int) api.Event {
	return api.Event{Kind: api.EventEnd, Key: k, At: at, Outcome: outcome}
}

// peer is the other end of an agent's session.
type peer struct {
	s      *session.Session
	a      *Agent
	got    []api.Message // that the agent told
	events []api.Event
}

func newSession(t *testing.T, boot int) *session.Session {
	t.Helper()
	s, e := session.New(boot)
	if e != api.OK {
		t.Fatal("a session", e)
	}
	return s
}

// meet is a peer of a boot, which knows the agent, and is known to it; and what came meanwhile.
func meet(t *testing.T, a *Agent, boot, now int) *peer {
	t.Helper()
	p := &peer{s: newSession(t, boot), a: a}
	for range 4 {
		p.round(t, now)
	}
	if !p.s.Ready() {
		t.Fatal("the agent does not know the peer")
	}
	return p
}

// send has a message come to the agent at once.
func (p *peer) send(t *testing.T, now int, messages ...api.Message) []api.Event {
	t.Helper()
	for _, m := range messages {
		b, e := wire.Encode(m)
		if e != api.OK {
			t.Fatal("a message", m, e)
		}
		wants(t, "Send", p.s.Send(b), api.OK)
	}
	return p.hand(t, now)
}

// hand has all that the peer sends come to the agent, and is what happens by that.
func (p *peer) hand(t *testing.T, now int) []api.Event {
	t.Helper()
	var events []api.Event
	for _, envelope := range p.s.Tick(now) {
		b, _ := wire.Wrap(envelope)
		got, e := p.a.On(b, now)
		wants(t, "On", e, api.OK)
		events = append(events, got...)
	}
	p.events = append(p.events, events...)
	return events
}

// take has all that the agent sends come to the peer: the messages of these.
func (p *peer) take(t *testing.T, now int) []api.Message {
	t.Helper()
	sent, events, e := p.a.Tick(now)
	wants(t, "Tick", e, api.OK)
	p.events = append(p.events, events...)
	return p.deliver(t, sent)
}

// deliver has what was sent come to the peer: the messages of it.
func (p *peer) deliver(t *testing.T, sent [][]byte) []api.Message {
	t.Helper()
	var got []api.Message
	for _, b := range sent {
		envelope, e := wire.Unwrap(b)
		wants(t, "an envelope", e, api.OK)
		bodies, _, e := p.s.On(envelope)
		wants(t, "the peer's On", e, api.OK)
		for _, body := range bodies {
			m, e := wire.Decode(body)
			wants(t, "a message", e, api.OK)
			got = append(got, m)
		}
	}
	p.got = append(p.got, got...)
	return got
}

// round is a Tick of each, and what came from the agent.
func (p *peer) round(t *testing.T, now int) []api.Message {
	t.Helper()
	p.hand(t, now)
	return p.take(t, now)
}

func same(a, b api.Message) bool {
	x, _ := wire.Encode(a)
	y, _ := wire.Encode(b)
	return string(x) == string(y)
}

func mustTell(t *testing.T, name string, got []api.Message, want ...api.Message) {
	t.Helper()
	for i := range max(len(got), len(want)) {
		if i >= len(got) || i >= len(want) || !same(got[i], want[i]) {
			t.Errorf("%s: it told %v, not %v", name, got, want)
			return
		}
	}
}

func mustHappen(t *testing.T, name string, got []api.Event, want ...api.Event) {
	t.Helper()
	for i := range max(len(got), len(want)) {
		if i >= len(got) || i >= len(want) || got[i] != want[i] {
			t.Errorf("%s: %v happened, not %v", name, got, want)
			return
		}
	}
}

// fill leaves no byte of room on a disk, and is the file to remove again.
func fill(t *testing.T, s *store.Store, but int) {
	t.Helper()
	wants(t, "fill", s.Append("filler", make([]byte, s.Room()-but)), api.OK)
}
