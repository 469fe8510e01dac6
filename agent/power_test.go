package agent

import (
	"math/rand"
	"slices"
	"testing"

	"reveille/api"
	"reveille/ledger"
	"reveille/session"
	"reveille/store"
	"reveille/wire"
)

// P21.3: ends that the ledger has no room for

func TestEndsAgain(t *testing.T) {
	a, s := fresh(t)
	p := meet(t, a, 1, 0)
	x, y, z := key("x", 60), key("y", 60), key("z", 60)
	p.send(t, 60, dispatch(x, 200), dispatch(y, 120), dispatch(z, 200))
	p.round(t, 60)
	fill(t, s, 0)
	events, e := a.Finish(x, api.Good, 70)
	wants(t, "no room", e, api.OK)
	mustHappen(t, "no room", events, finished(x, 70, api.Good))
	p.events = nil
	mustTell(t, "no room", p.round(t, 120))
	mustHappen(t, "no room", p.events, finished(y, 120, api.Killed))
	events, e = a.Finish(z, api.Bad, 121)
	wants(t, "no room", e, api.OK)
	mustHappen(t, "no room", events, finished(z, 121, api.Bad))
	// They have ended, but the ledger does not know.
	if len(a.Going()) != 0 || len(a.Held()) != 3 || a.Held()[0].Outcome != 0 || a.Dead() || a.Idle() {
		t.Error(a.Going(), a.Held(), a.Dead(), a.Idle())
	}
	mustHappen(t, "held", p.send(t, 70, dispatch(x, 200)))
	for range 3 {
		mustTell(t, "still no room", p.round(t, 122))
	}
	// Room for one of them, then for all.
	wants(t, "Remove", s.Remove("filler"), api.OK)
	fill(t, s, 30)
	mustTell(t, "room for one", p.round(t, 123), result(x, api.Good))
	if h := a.Held(); h[0].Outcome != api.Good || h[1].Outcome != 0 || h[2].Outcome != 0 {
		t.Error(h)
	}
	wants(t, "Remove", s.Remove("filler"), api.OK)
	mustTell(t, "room for all", p.round(t, 124), result(y, api.Killed), result(z, api.Bad))
	mustHappen(t, "thanks", p.send(t, 125, thanks(x), thanks(y), thanks(z)))
	p.round(t, 125)
	if !a.Idle() || len(p.events) != 1 {
		t.Error(a.Idle(), p.events)
	}
}

// Thanks and watermarks that find no room are not heeded; nothing else comes of it.
func TestNoRoomForThanks(t *testing.T) {
	a, s := fresh(t)
	p := meet(t, a, 1, 0)
	k := key("a", 60)
	p.send(t, 60, dispatch(k, 120))
	a.Finish(k, api.Good, 61)
	p.round(t, 61)
	fill(t, s, 0)
	mustHappen(t, "no room", p.send(t, 62, thanks(k), forget(100)))
	if a.Mark() != first || a.Held()[0].Thanked || a.Dead() || a.Idle() {
		t.Error(a.Mark(), a.Held(), a.Dead())
	}
	wants(t, "Remove", s.Remove("filler"), api.OK)
	mustTell(t, "once a session", p.round(t, 63))
	p = meet(t, a, 2, 64)
	mustTell(t, "the next session", p.got, register(1), result(k, api.Good))
	p.send(t, 65, thanks(k), forget(100))
	if a.Mark() != 100 || len(a.Held()) != 0 {
		t.Error(a.Mark(), a.Held())
	}
}

// P21.1: dead

// mustBeDead: each further call that may be refused is.
func mustBeDead(t *testing.T, name string, a *Agent) {
	t.Helper()
	good, _ := wire.Wrap(api.Envelope{Kind: api.EnvHello, Mine: 9})
	for _, b := range [][]byte{nil, good} {
		if events, e := a.On(b, 0); events != nil || e != api.ErrOff {
			t.Error(name, "On", events, e)
		}
	}
	if sent, events, e := a.Tick(1 << 40); sent != nil || events != nil || e != api.ErrOff {
		t.Error(name, "Tick", sent, events, e)
	}
	for _, outcome := range []int{0, api.Good} {
		for _, g := range append(a.Going(), api.Going{}) {
			if events, e := a.Finish(g.Key, outcome, 0); events != nil || e != api.ErrOff {
				t.Error(name, "Finish", events, e)
			}
		}
	}
	if !a.Dead() || a.Boot() != 1 {
		t.Error(name, a.Dead(), a.Boot())
	}
}

// dying is an agent of which a run goes on, one ended and one has thanks, on a disk whose power goes behind so many calls.
func dying(t *testing.T, stop int) (*Agent, *peer) {
	t.Helper()
	a, s := fresh(t)
	p := meet(t, a, 1, 0)
	p.send(t, 60, dispatch(key("going", 60), 120), dispatch(key("ended", 60), 120))
	_, e := a.Finish(key("ended", 60), api.Good, 60)
	wants(t, "Finish", e, api.OK)
	p.round(t, 60)
	s.Stop(stop)
	return a, p
}

func TestDeadByOn(t *testing.T) {
	for _, one := range []struct {
		m     api.Message
		steps int
	}{{dispatch(key("a", 60), 120), 2}, {thanks(key("ended", 60)), 1}, {forget(60), 2}} {
		for stop := range one.steps {
			a, p := dying(t, stop)
			b, _ := wire.Encode(one.m)
			wants(t, "Send", p.s.Send(b), api.OK)
			for _, envelope := range p.s.Tick(60) {
				b, _ := wire.Wrap(envelope)
				if events, e := a.On(b, 60); events != nil || e != api.ErrOff {
					t.Error(one.m, events, e)
				}
			}
			mustBeDead(t, "On", a)
		}
		a, p := dying(t, one.steps)
		p.send(t, 60, one.m)
		if a.Dead() {
			t.Error("dead ahead of its time")
		}
	}
}

// What comes behind the message by which the agent died is not heeded.
func TestDeadOnTheWay(t *testing.T) {
	a, p := dying(t, 2)
	for _, m := range []api.Message{dispatch(key("a", 60), 120), dispatch(key("b", 60), 120), dispatch(key("c", 60), 60)} {
		b, _ := wire.Encode(m)
		wants(t, "Send", p.s.Send(b), api.OK)
	}
	envelopes := p.s.Tick(60)
	slices.Reverse(envelopes)
	for i, envelope := range envelopes {
		b, _ := wire.Wrap(envelope)
		want := api.OK
		if i == len(envelopes)-1 {
			want = api.ErrOff
		}
		if events, e := a.On(b, 60); events != nil || e != want {
			t.Error(i, events, e)
		}
	}
	mustBeDead(t, "on the way", a)
	if len(a.Going()) != 2 || a.Going()[1].Key != key("a", 60) || len(a.Held()) != 3 {
		t.Error(a.Going(), a.Held())
	}
}

// A run has ended when it is told so, also where the power goes by that.
func TestDeadByFinish(t *testing.T) {
	for stop := range 2 {
		a, _ := dying(t, stop)
		k := key("going", 60)
		events, e := a.Finish(k, api.Bad, 90)
		wants(t, "Finish", e, api.OK)
		mustHappen(t, "Finish", events, finished(k, 90, api.Bad))
		if len(a.Going()) != 0 {
			t.Error(a.Going())
		}
		mustBeDead(t, "Finish", a)
	}
}

func TestDeadByKill(t *testing.T) {
	for stop := range 4 {
		a, s := fresh(t)
		p := meet(t, a, 1, 0)
		x, y := key("x", 60), key("y", 60)
		p.send(t, 60, dispatch(x, 121), dispatch(y, 120))
		p.round(t, 60)
		s.Stop(stop)
		_, events, e := a.Tick(130)
		wants(t, "Tick", e, api.OK)
		mustHappen(t, "Tick", events, finished(y, 130, api.Killed), finished(x, 130, api.Killed))
		mustBeDead(t, "Tick", a)
	}
}

// An end that is handed to the ledger again was told; where the power goes by that, nothing else is done.
func TestDeadByEndAgain(t *testing.T) {
	a, s := fresh(t)
	p := meet(t, a, 1, 0)
	x, y := key("x", 60), key("y", 60)
	p.send(t, 60, dispatch(x, 200), dispatch(y, 120))
	fill(t, s, 0)
	_, e := a.Finish(x, api.Good, 70)
	wants(t, "Finish", e, api.OK)
	wants(t, "Remove", s.Remove("filler"), api.OK)
	s.Stop(1)
	if sent, events, e := a.Tick(500); sent != nil || events != nil || e != api.ErrOff {
		t.Error(sent, events, e)
	}
	mustBeDead(t, "Tick", a)
	if len(a.Going()) != 1 {
		t.Error(a.Going())
	}
}

// What is not written does not ask the disk.
func TestOffUnseen(t *testing.T) {
	a, p := dying(t, 0)
	mustHappen(t, "not begun", p.send(t, 60, dispatch(key("going", 60), 120), dispatch(key("b", 60), 60), forget(first)))
	mustTell(t, "not begun", p.round(t, 61), refusal(key("b", 60), api.ReasonLate))
	if a.Dead() {
		t.Error("dead")
	}
}

// P21.5: whatever comes, whenever it crashes

// host is an agent, its disk, a peer, and what was seen of the agent.
type host struct {
	t     *testing.T
	r     *rand.Rand
	disk  *store.Store
	agent *Agent
	peer  *session.Session
	boots int // of the peer
	now   int
	onWay [][]byte // to the agent

	starts map[api.Key]int
	ends   map[api.Key]int // the Outcome with which they ended
}

func newHost(t *testing.T, seed int64) *host {
	r := rand.New(rand.NewSource(seed))
	size := room
	if r.Intn(3) == 0 {
		size = 100 + r.Intn(600)
	}
	h := &host{t: t, r: r, disk: disk(t, size), starts: map[api.Key]int{}, ends: map[api.Key]int{}}
	h.open()
	h.newPeer()
	return h
}

func (h *host) config() api.AgentConfig {
	c := usual()
	c.Slots, c.Size, c.Beat = 1+h.r.Intn(4), 1+h.r.Intn(300), 1+h.r.Intn(100)
	return c
}

// open opens the agent, as long as it takes.
func (h *host) open() {
	for {
		h.agent = nil
		a, e := Open(h.config(), h.disk)
		if e == api.OK {
			h.agent = a
			return
		}
		if e != api.ErrOff {
			// There is no room: there is no agent any more.
			wants(h.t, "Open", e, api.ErrFull)
			return
		}
		h.crash()
	}
}

// crash leaves some of what was not sure.
func (h *host) crash() {
	var l []api.Kept
	for _, f := range h.disk.List() {
		l = append(l, api.Kept{Name: f.Name, Bytes: h.r.Intn(len(f.Bytes) - f.Sure + 1)})
	}
	wants(h.t, "Crash", h.disk.Crash(l), api.OK)
	if h.r.Intn(4) == 0 {
		h.disk.Stop(h.r.Intn(6))
	}
}

func (h *host) newPeer() {
	h.boots++
	h.peer = newSession(h.t, h.boots)
}

func (h *host) anyKey() api.Key {
	k := key(string(rune('a'+h.r.Intn(3))), 60*h.r.Intn(30))
	if h.r.Intn(20) == 0 {
		k.Host = 4
	}
	return k
}

func (h *host) anyMessage() api.Message {
	switch h.r.Intn(8) {
	case 0:
		return thanks(h.anyKey())
	case 1:
		return forget(h.r.Intn(300))
	case 2:
		return result(h.anyKey(), api.Good)
	}
	m := dispatch(h.anyKey(), h.now-5+h.r.Intn(100))
	m.At = min(h.now-50+h.r.Intn(55), m.Until)
	return m
}

// see notes events, and asks whether they may be.
func (h *host) see(events []api.Event) {
	for _, e := range events {
		switch e.Kind {
		case api.EventStart:
			h.starts[e.Key]++
			if h.starts[e.Key] > 1 {
				h.t.Fatal("begun twice", e)
			}
			h.mustBeSure(e.Key)
		case api.EventEnd:
			if h.ends[e.Key] != 0 || h.starts[e.Key] != 1 {
				h.t.Fatal("ended", e, h.ends[e.Key], h.starts[e.Key])
			}
			h.ends[e.Key] = e.Outcome
		default:
			h.t.Fatal("no event", e)
		}
	}
}

// mustBeSure: behind a crash that leaves the least, the ledger holds the run.
func (h *host) mustBeSure(k api.Key) {
	other := h.disk.Fork()
	wants(h.t, "Crash", other.Crash(nil), api.OK)
	l, e := ledger.Open(other, 4096)
	if e == api.ErrFull {
		return
	}
	wants(h.t, "a ledger", e, api.OK)
	// Where the watermark is behind it, a further message of the same packet forgot it.
	if _, held := l.Get(k); !held && k.Occ >= l.Mark() {
		h.t.Fatal("not sure", k)
	}
}

// mustHold: what the agent holds came of what was seen.
func (h *host) mustHold() {
	if h.agent == nil {
		return
	}
	for _, one := range h.agent.Held() {
		if o := one.Outcome; o != 0 && o != api.Interrupted && h.ends[one.Key] != o {
			h.t.Fatal("held", one, "ended", h.ends[one.Key])
		}
	}
}

func (h *host) step() {
	switch h.r.Intn(12) {
	case 0, 1:
		h.now += h.r.Intn(5)
		sent, events, e := h.agent.Tick(h.now)
		h.heed(e)
		h.see(events)
		for _, b := range sent {
			if envelope, _ := wire.Unwrap(b); h.r.Intn(4) > 0 {
				h.peer.On(envelope)
			}
		}
	case 2, 3, 4, 5:
		b, _ := wire.Encode(h.anyMessage())
		h.peer.Send(b)
	case 6, 7:
		for _, envelope := range h.peer.Tick(h.now) {
			b, _ := wire.Wrap(envelope)
			h.onWay = append(h.onWay, b)
		}
	case 8, 9:
		for range h.r.Intn(20) {
			h.come()
		}
	case 10:
		if l := h.agent.Going(); len(l) > 0 {
			k := l[h.r.Intn(len(l))].Key
			events, e := h.agent.Finish(k, 1+h.r.Intn(2), h.now)
			if h.heed(e); e == api.OK && len(events) != 1 {
				h.t.Fatal("Finish", events)
			}
			h.see(events)
		}
	case 11:
		switch h.r.Intn(12) {
		case 0:
			h.newPeer()
		case 1:
			h.disk.Stop(h.r.Intn(8))
		case 2:
			h.crash()
			h.open()
		}
	}
}

// come has one of the packets on the way come, or get lost.
func (h *host) come() {
	if len(h.onWay) == 0 || h.agent == nil {
		return
	}
	i := h.r.Intn(len(h.onWay))
	b := h.onWay[i]
	if h.r.Intn(4) > 0 {
		h.onWay = slices.Delete(h.onWay, i, i+1)
	}
	if h.r.Intn(10) > 0 {
		events, e := h.agent.On(b, h.now)
		h.heed(e)
		h.see(events)
	}
}

// heed: a dead one is opened anew, sooner or later.
func (h *host) heed(e api.Errno) {
	if e == api.OK {
		return
	}
	wants(h.t, "a call", e, api.ErrOff)
	if !h.agent.Dead() {
		h.t.Fatal("not dead")
	}
	if h.r.Intn(3) == 0 {
		h.crash()
		h.open()
	}
}

func TestCrashes(t *testing.T) {
	starts, ends := 0, 0
	for seed := range int64(150) {
		h := newHost(t, seed)
		for range 1200 {
			if h.agent == nil {
				break
			}
			h.step()
			h.mustHold()
			if t.Failed() {
				t.Fatal("seed", seed)
			}
		}
		starts, ends = starts+len(h.starts), ends+len(h.ends)
	}
	if starts < 2000 || ends < 1000 {
		t.Error("too little happened", starts, ends)
	}
}

// The power goes at each step of a whole life, and leaves each part of what was not sure.
func TestPowerAtEachStep(t *testing.T) {
	x, y, z := key("x", 60), key("y", 60), key("z", 60)
	for stop := range 40 {
		for kept := range 40 {
			h := &host{t: t, r: rand.New(rand.NewSource(1)), disk: disk(t, room), starts: map[api.Key]int{}, ends: map[api.Key]int{}}
			h.agent = opened(t, usual(), h.disk)
			h.newPeer()
			h.disk.Stop(stop)
			tell := func(now int, messages ...api.Message) {
				for _, m := range messages {
					b, _ := wire.Encode(m)
					h.peer.Send(b)
				}
				for range 2 {
					for _, envelope := range h.peer.Tick(now) {
						b, _ := wire.Wrap(envelope)
						events, _ := h.agent.On(b, now)
						h.see(events)
					}
					sent, events, _ := h.agent.Tick(now)
					h.see(events)
					for _, b := range sent {
						envelope, _ := wire.Unwrap(b)
						h.peer.On(envelope)
					}
				}
			}
			finish := func(k api.Key, outcome, now int) {
				events, _ := h.agent.Finish(k, outcome, now)
				h.see(events)
			}
			tell(60)
			tell(60, dispatch(x, 100), dispatch(y, 100))
			finish(x, api.Good, 61)
			tell(62, dispatch(z, 100))
			tell(62, thanks(x))
			finish(y, api.Bad, 63)
			tell(64, forget(120))
			tell(100, thanks(y))
			tell(101, thanks(z))
			var l []api.Kept
			for _, f := range h.disk.List() {
				l = append(l, api.Kept{Name: f.Name, Bytes: min(kept, len(f.Bytes)-f.Sure)})
			}
			wants(t, "Crash", h.disk.Crash(l), api.OK)
			h.agent = opened(t, usual(), h.disk)
			h.newPeer()
			h.mustHold()
			for range 3 {
				tell(60)
			}
			tell(60, dispatch(x, 100), dispatch(y, 100), dispatch(z, 100))
			h.mustHold()
			if t.Failed() {
				t.Fatal(stop, kept)
			}
		}
	}
}
