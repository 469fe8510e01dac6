package agent

import (
	"math"
	"slices"
	"strings"
	"testing"

	"reveille/api"
	"reveille/ledger"
	"reveille/store"
	"reveille/wire"
)

// P21.1: Open

func TestOpen(t *testing.T) {
	s := disk(t, room)
	for n := 1; n < 4; n++ {
		a := opened(t, usual(), s)
		if a.Boot() != n || a.Dead() || !a.Idle() || a.Mark() != first || len(a.Going()) != 0 || len(a.Held()) != 0 {
			t.Error(n, a.Boot(), a.Dead(), a.Idle(), a.Mark(), a.Going(), a.Held())
		}
	}
	for _, change := range []func(c *api.AgentConfig){
		func(c *api.AgentConfig) { c.Host = 0 },
		func(c *api.AgentConfig) { c.Host = 65535 },
		func(c *api.AgentConfig) { c.Labels = nil },
		func(c *api.AgentConfig) { c.Labels = []api.Label{{Key: "a", Value: ""}, {Key: "b", Value: "1"}} },
		func(c *api.AgentConfig) { c.Slots = 1 },
		func(c *api.AgentConfig) { c.Slots = 65536 },
		func(c *api.AgentConfig) { c.Size = 1 },
		func(c *api.AgentConfig) { c.Size = 1 << 26 },
		func(c *api.AgentConfig) { c.Beat = 1 },
	} {
		c := usual()
		change(&c)
		opened(t, c, s)
	}
}

func TestOpenMayNot(t *testing.T) {
	s := disk(t, room)
	for i, change := range []func(c *api.AgentConfig){
		func(c *api.AgentConfig) { c.Host = -1 },
		func(c *api.AgentConfig) { c.Host = 65536 },
		func(c *api.AgentConfig) { c.Host = math.MinInt },
		func(c *api.AgentConfig) { c.Labels = []api.Label{{}} },
		func(c *api.AgentConfig) { c.Labels = []api.Label{{Key: "b"}, {Key: "a"}} },
		func(c *api.AgentConfig) { c.Labels = []api.Label{{Key: "a"}, {Key: "a"}} },
		func(c *api.AgentConfig) { c.Labels = []api.Label{{Key: "a b"}} },
		func(c *api.AgentConfig) { c.Labels = []api.Label{{Key: strings.Repeat("a", 33)}} },
		func(c *api.AgentConfig) { c.Labels = make([]api.Label, 17) },
		func(c *api.AgentConfig) { c.Slots = 0 },
		func(c *api.AgentConfig) { c.Slots = 65537 },
		func(c *api.AgentConfig) { c.Slots = -1 },
		func(c *api.AgentConfig) { c.Size = 0 },
		func(c *api.AgentConfig) { c.Size = 1<<26 + 1 },
		func(c *api.AgentConfig) { c.Beat = 0 },
		func(c *api.AgentConfig) { c.Beat = 86401 },
		func(c *api.AgentConfig) { *c = api.AgentConfig{} },
	} {
		c := usual()
		change(&c)
		if a, e := Open(c, s); a != nil || e != api.ErrArg {
			t.Error(i, e)
		}
		if a, e := Open(c, nil); a != nil || e != api.ErrArg {
			t.Error(i, "nil", e)
		}
	}
	if a, e := Open(usual(), nil); a != nil || e != api.ErrArg {
		t.Error("nil", e)
	}
	if len(s.List()) != 0 {
		t.Error("written", s.List())
	}
	if a, e := Open(usual(), &store.Store{}); a != nil || e != api.ErrClosed {
		t.Error("no store", e)
	}
	s.Stop(0)
	if a, e := Open(api.AgentConfig{}, s); a != nil || e != api.ErrArg {
		t.Error("off, and may not be", e)
	}
	if a, e := Open(usual(), s); a != nil || e != api.ErrOff {
		t.Error("off", e)
	}
}

// What the boot refuses comes first; what the ledger refuses finds the boot counted.
func TestOpenRefused(t *testing.T) {
	s := disk(t, room)
	has(t, s, "ledger.snap", []byte("none"))
	if a, e := Open(usual(), s); a != nil || e != api.ErrLog {
		t.Error("the ledger", e)
	}
	mustSay := func(name string, want byte) {
		t.Helper()
		if b, e := s.Read("boot"); e != api.OK || b[11] != want {
			t.Error(name, b, e)
		}
	}
	mustSay("the ledger", 1)
	wants(t, "Remove", s.Remove("ledger.snap"), api.OK)
	if a := opened(t, usual(), s); a.Boot() != 2 {
		t.Error("again", a.Boot())
	}

	// A run goes on, and there is no room to end it.
	l, _ := ledger.Open(s, 4096)
	wants(t, "Begin", l.Begin(key("a", 0), 60), api.OK)
	fill(t, s, 12)
	if a, e := Open(usual(), s); a != nil || e != api.ErrFull {
		t.Error("no room", e)
	}
	mustSay("no room", 3)
	wants(t, "Remove", s.Remove("filler"), api.OK)
	s.Stop(3)
	if a, e := Open(usual(), s); a != nil || e != api.ErrOff {
		t.Error("off", e)
	}
	wants(t, "Crash", s.Crash(nil), api.OK)
	a := opened(t, usual(), s)
	if want := []api.Held{{Key: key("a", 0), Until: 60, Outcome: api.Interrupted}}; a.Boot() != 5 || !slices.Equal(a.Held(), want) || a.Idle() {
		t.Error(a.Boot(), a.Held(), a.Idle())
	}
}

func TestConfigIsNotKept(t *testing.T) {
	c := usual()
	a := opened(t, c, disk(t, room))
	c.Labels[0].Value = "other"
	p := meet(t, a, 1, 0)
	mustTell(t, "the labels", p.got, register(1), beat(0))
}

// P21.3: what is told

func TestRegister(t *testing.T) {
	a, s := fresh(t)
	p := meet(t, a, 1, 0)
	mustTell(t, "the first one", p.got, register(1), beat(0))
	for range 5 {
		mustTell(t, "further", p.round(t, 0))
	}
	// The next peer's session is another one; a beat is not due yet.
	mustTell(t, "the next peer", meet(t, a, 2, 1).got, register(1))
	mustTell(t, "the one behind", meet(t, a, 7, 2).got, register(1))
	a = opened(t, usual(), s)
	mustTell(t, "opened anew", meet(t, a, 7, 3).got, register(2), beat(3))
}

// An agent that is opened anew meets the peer that it had.
func TestRegisterAgain(t *testing.T) {
	a, s := fresh(t)
	p := meet(t, a, 1, 0)
	p.a = opened(t, usual(), s)
	p.got = nil
	for range 4 {
		p.round(t, 1)
	}
	mustTell(t, "opened anew", p.got, register(2), beat(1))
}

func TestBeat(t *testing.T) {
	c := usual()
	c.Beat = 10
	a := opened(t, c, disk(t, room))
	// Where no peer is known there is none to be told.
	for now := range 5 {
		_, _, e := a.Tick(now)
		wants(t, "Tick", e, api.OK)
	}
	if !a.Idle() {
		t.Error("not idle")
	}
	p := meet(t, a, 1, 5)
	mustTell(t, "the first one", p.got, register(1), beat(5))
	for _, one := range []struct {
		now int
		is  bool
	}{{5, false}, {14, false}, {15, true}, {15, false}, {24, false}, {26, true}, {35, false}, {36, true}, {1000, true}, {1009, false}, {1010, true}, {0, false}, {1019, false}, {1020, true}} {
		var want []api.Message
		if one.is {
			want = append(want, beat(one.now))
		}
		mustTell(t, "a beat", p.round(t, one.now), want...)
	}
	// A time that is none cannot be told.
	for _, now := range []int{last + 1, math.MaxInt, math.MinInt, first - 1} {
		sent, events, e := a.Tick(now)
		if e != api.OK || len(events) != 0 {
			t.Error(now, sent, events, e)
		}
	}
	mustTell(t, "the last time", p.round(t, last), beat(last))
}

func TestBeatEachSecond(t *testing.T) {
	c := usual()
	c.Beat = 1
	p := meet(t, opened(t, c, disk(t, room)), 1, 0)
	p.got = nil
	for now := 1; now < 200; now++ {
		mustTell(t, "a beat", p.round(t, now), beat(now))
	}
}

// P21.2: dispatches

func TestDispatch(t *testing.T) {
	a, s := fresh(t)
	p := meet(t, a, 1, 0)
	k := key("a", 60)
	mustHappen(t, "a dispatch", p.send(t, 60, dispatch(k, 120)), started(k, 60))
	if want := []api.Going{{Key: k, Until: 120}}; !slices.Equal(a.Going(), want) {
		t.Error(a.Going())
	}
	if want := []api.Held{{Key: k, Until: 120}}; !slices.Equal(a.Held(), want) || a.Idle() {
		t.Error(a.Held(), a.Idle())
	}
	// It is sure.
	if l, _ := ledger.Open(s.Fork(), 1); len(l.All()) != 1 || l.All()[0].Key != k {
		t.Error(l.All())
	}
	// Example 1: twice, whatever else it says.
	other := dispatch(k, 999)
	other.Version = 4
	mustHappen(t, "again", p.send(t, 60, dispatch(k, 120), other, dispatch(k, 60)))
	mustTell(t, "again", p.round(t, 60))
	mustHappen(t, "the limits of times", p.send(t, 60, dispatch(key("b", 60), 61)), started(key("b", 60), 60))
	late := dispatch(key("c", first), last)
	late.At = 60
	mustHappen(t, "the limits of occurrences", p.send(t, 60, late), started(key("c", first), 60))
	mustTell(t, "begun", p.round(t, 60))
}

func TestDispatchOfOthers(t *testing.T) {
	a, _ := fresh(t)
	p := meet(t, a, 1, 0)
	for _, host := range []int{0, 4, 6, 65535} {
		k := key("a", 60)
		k.Host = host
		mustHappen(t, "another host's", p.send(t, 60, dispatch(k, 120)))
	}
	mustTell(t, "another host's", p.round(t, 60))
	// What is an agent's to tell does nothing, if it is told to it.
	k := key("a", 60)
	p.send(t, 60, dispatch(k, 120))
	mustHappen(t, "other kinds", p.send(t, 60, register(9), beat(60), result(k, api.Good), refusal(k, 1)))
	// Neither does what is no message.
	for _, body := range [][]byte{nil, {0}, {10}, []byte("none")} {
		wants(t, "Send", p.s.Send(body), api.OK)
	}
	mustHappen(t, "no messages", p.hand(t, 60))
	mustTell(t, "all of these", p.round(t, 60))
	if len(a.Going()) != 1 || len(a.Held()) != 1 || a.Mark() != first {
		t.Error(a.Going(), a.Held(), a.Mark())
	}
}

// The first reason is told.
func TestRefuse(t *testing.T) {
	c := usual()
	c.Slots = 1
	s := disk(t, room)
	a := opened(t, c, s)
	p := meet(t, a, 1, 0)
	full := func(do func()) {
		t.Helper()
		fill(t, s, 0)
		do()
		wants(t, "Remove", s.Remove("filler"), api.OK)
	}
	refused := func(name string, now, reason int, m api.Message) {
		t.Helper()
		mustHappen(t, name, p.send(t, now, m))
		mustTell(t, name, p.round(t, now), refusal(m.Key, reason))
	}
	soon := dispatch(key("a", 60), 120)
	soon.At = 61
	refused("ahead of its time", 60, api.ReasonBusy, soon)
	refused("at its deadline", 120, api.ReasonLate, soon)
	soon.At = 120
	refused("late ahead of busy", 120, api.ReasonLate, soon)
	refused("late ahead of busy", math.MaxInt, api.ReasonLate, soon)
	refused("ahead of all times", math.MinInt, api.ReasonBusy, soon)
	full(func() {
		refused("no room", 120, api.ReasonFull, dispatch(key("b", 60), 121))
		refused("busy ahead of full", 60, api.ReasonBusy, soon)
	})
	mustHappen(t, "begun", p.send(t, 119, dispatch(key("a", 60), 120)), started(key("a", 60), 119))
	refused("no slot", 119, api.ReasonBusy, dispatch(key("b", 60), 120))
	mustHappen(t, "no slot is free till the Tick", p.send(t, 120, dispatch(key("b", 60), 121)))
	mustTell(t, "no slot is free till the Tick", p.round(t, 119), refusal(key("b", 60), api.ReasonBusy))
	p.send(t, 60, forget(121))
	for _, occ := range []int{120, 60, first} {
		refused("old", 60, api.ReasonOld, dispatch(key("c", occ), 500))
		refused("old ahead of late", 60, api.ReasonOld, dispatch(key("c", occ), 60))
	}
	mustHappen(t, "held ahead of old", p.send(t, 500, dispatch(key("a", 60), 120)))
	mustTell(t, "held ahead of old", p.round(t, 60))
	refused("behind the watermark", 60, api.ReasonBusy, dispatch(key("c", 180), 500))
	if len(a.Held()) != 1 || a.Mark() != 121 {
		t.Error(a.Held(), a.Mark())
	}
}

// At the watermark it is not old.
func TestAtTheWatermark(t *testing.T) {
	a, _ := fresh(t)
	p := meet(t, a, 1, 0)
	p.send(t, 0, forget(120))
	mustHappen(t, "at it", p.send(t, 130, dispatch(key("a", 120), 240), dispatch(key("a", 60), 240)), started(key("a", 120), 130))
	mustTell(t, "ahead of it", p.round(t, 130), refusal(key("a", 60), api.ReasonOld))
}

// A ledger that holds as many as it may refuses, as a full disk does.
func TestRefuseManyHeld(t *testing.T) {
	c := usual()
	c.Slots = 600
	a := opened(t, c, disk(t, room))
	p := meet(t, a, 1, 0)
	for i := range api.MaxHeld {
		k := key("a", 60*i)
		mustHappen(t, "begun", p.send(t, 60000, dispatch(k, 90000)), started(k, 60000))
		p.take(t, 60000)
	}
	k := key("b", 0)
	mustHappen(t, "one more", p.send(t, 60000, dispatch(k, 90000)))
	mustTell(t, "one more", p.round(t, 60000), refusal(k, api.ReasonFull))
}

// Of many that come at once each is taken, in order.
func TestManyAtOnce(t *testing.T) {
	c := usual()
	c.Slots = 2
	a := opened(t, c, disk(t, room))
	p := meet(t, a, 1, 0)
	x, y, z := key("x", 60), key("y", 0), key("a", 120)
	for _, m := range []api.Message{dispatch(x, 200), dispatch(x, 200), dispatch(y, 200), dispatch(z, 200), thanks(x)} {
		b, _ := wire.Encode(m)
		wants(t, "Send", p.s.Send(b), api.OK)
	}
	// The first one comes last: so all come with it.
	envelopes := p.s.Tick(150)
	slices.Reverse(envelopes)
	for i, envelope := range envelopes {
		b, _ := wire.Wrap(envelope)
		events, e := a.On(b, 150)
		wants(t, "On", e, api.OK)
		if i < len(envelopes)-1 {
			mustHappen(t, "ahead of its turn", events)
			continue
		}
		mustHappen(t, "all at once", events, started(x, 150), started(y, 150))
	}
	mustTell(t, "all at once", p.round(t, 150), refusal(z, api.ReasonBusy))
}

func TestOnMayNot(t *testing.T) {
	a, _ := fresh(t)
	for _, b := range [][]byte{nil, {}, {0}, {1}, {4, 1, 1, 1, 1}, []byte("none at all")} {
		if events, e := a.On(b, 0); events != nil || e != api.ErrCode {
			t.Error(b, events, e)
		}
	}
	// Who was there ahead of the peer that is known says nothing any more.
	old := meet(t, a, 1, 0)
	p := meet(t, a, 2, 0)
	mustHappen(t, "an old peer's", old.send(t, 60, dispatch(key("a", 60), 120)))
	mustHappen(t, "the peer's", p.send(t, 60, dispatch(key("a", 60), 120)), started(key("a", 60), 60))
}

// What is handed in is neither changed nor kept.
func TestOnKeepsNothing(t *testing.T) {
	a, _ := fresh(t)
	p := meet(t, a, 1, 0)
	k := key("abc", 60)
	body, _ := wire.Encode(dispatch(k, 120))
	wants(t, "Send", p.s.Send(body), api.OK)
	for _, envelope := range p.s.Tick(60) {
		b, _ := wire.Wrap(envelope)
		was := slices.Clone(b)
		a.On(b, 60)
		if !slices.Equal(b, was) {
			t.Error("changed")
		}
		clear(b)
	}
	if len(a.Going()) != 1 || a.Going()[0].Key != k {
		t.Error(a.Going())
	}
	a.Going()[0].Until = 7
	a.Held()[0].Until = 7
	sent, _, _ := a.Tick(61)
	for _, b := range sent {
		clear(b)
	}
	if a.Going()[0].Until != 120 || a.Held()[0].Until != 120 {
		t.Error(a.Going(), a.Held())
	}
}

// P21.3: Finish

func TestFinish(t *testing.T) {
	for _, outcome := range []int{api.Good, api.Bad} {
		a, s := fresh(t)
		p := meet(t, a, 1, 0)
		k := key("a", 60)
		p.send(t, 60, dispatch(k, 120))
		events, e := a.Finish(k, outcome, 90)
		wants(t, "Finish", e, api.OK)
		mustHappen(t, "Finish", events, finished(k, 90, outcome))
		if want := []api.Held{{Key: k, Until: 120, Outcome: outcome}}; len(a.Going()) != 0 || !slices.Equal(a.Held(), want) || a.Idle() {
			t.Error(a.Going(), a.Held(), a.Idle())
		}
		if l, _ := ledger.Open(s.Fork(), 1); len(l.All()) != 1 || l.All()[0].Outcome != outcome {
			t.Error(l.All())
		}
		if events, e := a.Finish(k, outcome, 91); events != nil || e != api.ErrNone {
			t.Error("again", events, e)
		}
		mustTell(t, "its result", p.round(t, 91), result(k, outcome))
		mustTell(t, "once a session", p.round(t, 91))
		mustHappen(t, "thanks", p.send(t, 92, thanks(k)))
		p.round(t, 92)
		if want := []api.Held{{Key: k, Until: 120, Outcome: outcome, Thanked: true}}; !slices.Equal(a.Held(), want) || !a.Idle() {
			t.Error(a.Held(), a.Idle())
		}
	}
}

func TestFinishMayNot(t *testing.T) {
	a, _ := fresh(t)
	p := meet(t, a, 1, 0)
	k := key("a", 60)
	p.send(t, 60, dispatch(k, 120))
	for _, outcome := range []int{0, api.Killed, api.Interrupted, 5, -1, math.MinInt, math.MaxInt} {
		for _, one := range []api.Key{k, {}, key("b", 60)} {
			if events, e := a.Finish(one, outcome, 60); events != nil || e != api.ErrArg {
				t.Error(outcome, one, events, e)
			}
		}
	}
	other := k
	other.Host = 4
	for _, one := range []api.Key{{}, other, key("b", 60), key("a", 0)} {
		if events, e := a.Finish(one, api.Good, 60); events != nil || e != api.ErrNone {
			t.Error(one, events, e)
		}
	}
	// Till the Tick that kills it, it goes on.
	events, e := a.Finish(k, api.Good, math.MaxInt)
	wants(t, "late", e, api.OK)
	mustHappen(t, "late", events, finished(k, math.MaxInt, api.Good))
}

// P21.3: Tick

func TestKill(t *testing.T) {
	a, _ := fresh(t)
	p := meet(t, a, 1, 0)
	x, y, z := key("x", 60), key("y", 60), key("z", 60)
	p.send(t, 60, dispatch(x, 130), dispatch(y, 120), dispatch(z, 120))
	p.round(t, 60)
	tick := func(now int, want ...api.Event) {
		t.Helper()
		p.events = nil
		p.take(t, now)
		mustHappen(t, "Tick", p.events, want...)
	}
	tick(119)
	tick(math.MinInt)
	p.got = nil
	tick(120, finished(y, 120, api.Killed), finished(z, 120, api.Killed))
	// What is killed is told by the same Tick; results go by the order of their keys.
	mustTell(t, "killed", p.got, result(y, api.Killed), result(z, api.Killed))
	tick(500, finished(x, 500, api.Killed))
	if len(a.Going()) != 0 || len(a.Held()) != 3 || a.Held()[0] != (api.Held{Key: x, Until: 130, Outcome: api.Killed}) {
		t.Error(a.Going(), a.Held())
	}
	if events, e := a.Finish(x, api.Good, 500); events != nil || e != api.ErrNone {
		t.Error("killed", events, e)
	}
}

// What is owed is told once a session, in order, till it is thanked for.
func TestResults(t *testing.T) {
	a, s := fresh(t)
	p := meet(t, a, 1, 0)
	b, c, d := key("b", 60), key("c", 0), key("a", 60)
	p.send(t, 60, dispatch(b, 120), dispatch(c, 120), dispatch(d, 120))
	for _, k := range []api.Key{b, d, c} {
		_, e := a.Finish(k, api.Good, 61)
		wants(t, "Finish", e, api.OK)
	}
	all := []api.Message{result(c, api.Good), result(d, api.Good), result(b, api.Good)}
	mustTell(t, "in order", p.round(t, 61), all...)
	mustTell(t, "once", p.round(t, 62))
	p = meet(t, a, 2, 63)
	mustTell(t, "the next session", p.got, append([]api.Message{register(1)}, all...)...)
	p.send(t, 63, thanks(d), thanks(d), thanks(key("z", 60)))
	p = meet(t, a, 3, 64)
	mustTell(t, "the one behind", p.got, register(1), all[0], all[2])
	a = opened(t, usual(), s)
	p = meet(t, a, 3, 65)
	// The thanks are sure by no more than what was written behind them: here nothing crashed.
	mustTell(t, "opened anew", p.got, register(2), beat(65), all[0], all[2])
	p.send(t, 65, thanks(b), thanks(c))
	p.round(t, 65)
	if !a.Idle() || len(a.Held()) != 3 {
		t.Error(a.Idle(), a.Held())
	}
	mustTell(t, "all thanked", meet(t, a, 4, 66).got, register(2))
}

// What is interrupted is told too.
func TestInterrupted(t *testing.T) {
	a, s := fresh(t)
	p := meet(t, a, 1, 0)
	k := key("a", 60)
	p.send(t, 60, dispatch(k, 120))
	wants(t, "Crash", s.Crash(nil), api.OK)
	a = opened(t, usual(), s)
	if len(a.Going()) != 0 || a.Held()[0].Outcome != api.Interrupted || a.Idle() {
		t.Error(a.Going(), a.Held())
	}
	p = meet(t, a, 1, 61)
	mustTell(t, "interrupted", p.got, register(2), beat(61), result(k, api.Interrupted))
	mustHappen(t, "dispatched again", p.send(t, 61, dispatch(k, 120)))
	mustTell(t, "dispatched again", p.round(t, 61))
}

func TestForget(t *testing.T) {
	a, _ := fresh(t)
	p := meet(t, a, 1, 0)
	k, going := key("a", 60), key("b", 60)
	p.send(t, 60, dispatch(k, 120), dispatch(going, 120))
	a.Finish(k, api.Good, 61)
	p.round(t, 61)
	mustHappen(t, "a thank", p.send(t, 62, thanks(k), thanks(going)))
	mustHappen(t, "a forget", p.send(t, 62, forget(60)))
	if len(a.Held()) != 2 || a.Mark() != 60 {
		t.Error(a.Held(), a.Mark())
	}
	mustHappen(t, "a forget", p.send(t, 62, forget(61), forget(0)))
	if want := []api.Held{{Key: going, Until: 120}}; !slices.Equal(a.Held(), want) || a.Mark() != 61 {
		t.Error(a.Held(), a.Mark())
	}
	mustHappen(t, "forgotten", p.send(t, 62, dispatch(k, 120)))
	mustTell(t, "forgotten", p.round(t, 62), refusal(k, api.ReasonOld))
}

// Where the session is full, what is to be told is told later, in order.
func TestFullSession(t *testing.T) {
	c := usual()
	c.Beat = 1
	a := opened(t, c, disk(t, room))
	p := meet(t, a, 1, 0)
	k, x, y := key("a", 60), key("x", 60), key("y", 60)
	p.send(t, 60, dispatch(k, 1000))
	p.round(t, 60)
	p.round(t, 60)
	// Nothing of this comes: 64 beats are out, and five are left.
	var want []api.Message
	for now := 61; now < 130; now++ {
		sent, _, e := a.Tick(now)
		wants(t, "Tick", e, api.OK)
		if len(sent) > 9 {
			t.Error(now, len(sent))
		}
		want = append(want, beat(now))
	}
	refused := func(m api.Message) { want = append(want, refusal(m.Key, api.ReasonLate)) }
	refused(dispatch(x, 100))
	mustHappen(t, "late", p.send(t, 129, dispatch(x, 100)))
	a.Finish(k, api.Good, 129)
	a.Tick(130)
	want = append(want, beat(130), result(k, api.Good))
	refused(dispatch(y, 100))
	mustHappen(t, "late", p.send(t, 130, dispatch(y, 100)))
	if a.Idle() {
		t.Error("idle")
	}
	p.got = nil
	for now := 131; now < 400 && len(p.got) < len(want); now++ {
		p.round(t, now)
	}
	if len(p.got) < len(want) {
		t.Fatal(len(p.got), len(want))
	}
	mustTell(t, "later, in order", p.got[:len(want)], want...)
}

// What a session did not take is gone with it: the next one is told anew what is owed, and dispatches again.
func TestNextSessionBeginsAnew(t *testing.T) {
	c := usual()
	c.Beat = 1
	a := opened(t, c, disk(t, room))
	p := meet(t, a, 1, 0)
	k := key("a", 60)
	p.send(t, 60, dispatch(k, 1000))
	for now := 61; now < 200; now++ {
		a.Tick(now)
	}
	a.Finish(k, api.Bad, 200)
	p.send(t, 200, dispatch(key("b", 60), 100))
	a.Tick(200)
	p = meet(t, a, 2, 200)
	mustTell(t, "the next session", p.got, register(1), result(k, api.Bad))
}

// P21.4

func TestIdle(t *testing.T) {
	a, s := fresh(t)
	idle := func(name string, want bool) {
		t.Helper()
		if a.Idle() != want {
			t.Error(name, a.Idle())
		}
	}
	idle("opened", true)
	p := meet(t, a, 1, 0)
	p.round(t, 0)
	idle("all is told", true)
	k := key("a", 60)
	p.send(t, 60, dispatch(k, 120))
	idle("a run goes on", false)
	fill(t, s, 0)
	a.Finish(k, api.Good, 60)
	idle("an end is to be handed on", false)
	wants(t, "Remove", s.Remove("filler"), api.OK)
	p.round(t, 60)
	p.round(t, 60)
	idle("a result is owed", false)
	p.send(t, 60, thanks(k))
	idle("thanked", true)
	p.send(t, 60, dispatch(key("b", 60), 60))
	idle("a refusal is left", false)
	sent, _, _ := a.Tick(60)
	idle("it is out", false)
	p.deliver(t, sent)
	idle("it is out", false)
	p.hand(t, 60)
	idle("it came", true)
	q := &peer{s: newSession(t, 2), a: a}
	q.hand(t, 60)
	idle("who this is is left", false)
}

func TestNil(t *testing.T) {
	for _, a := range []*Agent{nil, {}} {
		if events, e := a.On(nil, 0); events != nil || e != api.ErrClosed {
			t.Error("On", events, e)
		}
		if sent, events, e := a.Tick(0); sent != nil || events != nil || e != api.ErrClosed {
			t.Error("Tick", sent, events, e)
		}
		if events, e := a.Finish(api.Key{}, 0, 0); events != nil || e != api.ErrClosed {
			t.Error("Finish", events, e)
		}
		if a.Boot() != 0 || a.Going() != nil || a.Held() != nil || a.Mark() != 0 || a.Dead() || a.Idle() {
			t.Error(a.Boot(), a.Going(), a.Held(), a.Mark(), a.Dead(), a.Idle())
		}
	}
}
