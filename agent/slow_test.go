package agent

import (
	"cmp"
	"math/rand"
	"slices"
	"testing"

	"reveille/api"
	"reveille/store"
)

// The slow agent goes by the chapter's words: lists alone, a disk that has room or has none, a session that takes all.

type slowAgent struct {
	host, slots, beat, boot int
	held                    []api.Held
	going                   []api.Going
	ends                    []api.Held
	mark                    int
	told                    []api.Message
	results                 []api.Key // told in this session
	lastBeat                int
	beaten                  bool
	met                     bool
	room                    bool
}

func (a *slowAgent) find(k api.Key) int {
	return slices.IndexFunc(a.held, func(h api.Held) bool { return h.Key == k })
}

func (a *slowAgent) meet() {
	a.told = []api.Message{register(a.boot)}
	a.results = nil
	a.met = true
}

func (a *slowAgent) on(m api.Message, now int) []api.Event {
	switch m.Kind {
	case api.MsgDispatch:
		return a.dispatch(m, now)
	case api.MsgThanks:
		if i := a.find(m.Key); i >= 0 && a.held[i].Outcome != 0 && a.room {
			a.held[i].Thanked = true
		}
	case api.MsgForget:
		if m.At <= a.mark || !a.room {
			return nil
		}
		a.mark = m.At
		var left []api.Held
		for _, h := range a.held {
			if h.Key.Occ >= a.mark || !h.Thanked {
				left = append(left, h)
			}
		}
		a.held = left
	}
	return nil
}

func (a *slowAgent) dispatch(m api.Message, now int) []api.Event {
	if m.Key.Host != a.host || a.find(m.Key) >= 0 {
		return nil
	}
	reason := 0
	if !a.room {
		reason = api.ReasonFull
	}
	if m.At > now || len(a.going) >= a.slots {
		reason = api.ReasonBusy
	}
	if m.Until <= now {
		reason = api.ReasonLate
	}
	if m.Key.Occ < a.mark {
		reason = api.ReasonOld
	}
	if reason != 0 {
		a.told = append(a.told, refusal(m.Key, reason))
		return nil
	}
	a.held = append(a.held, api.Held{Key: m.Key, Until: m.Until})
	slices.SortFunc(a.held, func(x, y api.Held) int {
		return cmp.Or(x.Key.Occ-y.Key.Occ, cmp.Compare(x.Key.Job, y.Key.Job))
	})
	a.going = append(a.going, api.Going{Key: m.Key, Until: m.Until})
	slices.SortStableFunc(a.going, func(x, y api.Going) int { return x.Until - y.Until })
	return []api.Event{{Kind: api.EventStart, Key: m.Key, At: now, Version: m.Version}}
}

func (a *slowAgent) end(k api.Key, outcome int) {
	if !a.room {
		a.ends = append(a.ends, api.Held{Key: k, Outcome: outcome})
		return
	}
	a.held[a.find(k)].Outcome = outcome
}

func (a *slowAgent) finish(k api.Key, outcome, now int) []api.Event {
	a.going = slices.DeleteFunc(a.going, func(g api.Going) bool { return g.Key == k })
	a.end(k, outcome)
	return []api.Event{finished(k, now, outcome)}
}

func (a *slowAgent) tick(now int) ([]api.Message, []api.Event) {
	if a.room {
		for _, one := range a.ends {
			a.end(one.Key, one.Outcome)
		}
		a.ends = nil
	}
	var events []api.Event
	for len(a.going) > 0 && a.going[0].Until <= now {
		events = append(events, a.finish(a.going[0].Key, api.Killed, now)...)
	}
	if !a.met {
		return nil, events
	}
	if !a.beaten || now-a.lastBeat >= a.beat {
		a.told = append(a.told, api.Message{Kind: api.MsgBeat, Key: api.Key{Host: a.host}, At: now})
		a.beaten, a.lastBeat = true, now
	}
	for _, h := range a.held {
		if h.Outcome != 0 && !h.Thanked && !slices.Contains(a.results, h.Key) {
			a.told = append(a.told, result(h.Key, h.Outcome))
			a.results = append(a.results, h.Key)
		}
	}
	told := a.told
	a.told = nil
	return told, events
}

func (a *slowAgent) begin(boot, slots, beat int) {
	for i := range a.held {
		if a.held[i].Outcome == 0 {
			a.held[i].Outcome = api.Interrupted
		}
	}
	*a = slowAgent{host: a.host, slots: slots, beat: beat, boot: boot, held: a.held, mark: a.mark, room: a.room}
}

// mustBeAs: does the agent tell of itself what the slow one does?
func (a *slowAgent) mustBeAs(t *testing.T, seed int64, other *Agent) {
	t.Helper()
	if !slices.Equal(other.Going(), a.going) || !slices.Equal(other.Held(), a.held) || other.Mark() != a.mark || other.Boot() != a.boot || other.Dead() {
		t.Fatal(seed, other.Going(), a.going, other.Held(), a.held, other.Mark(), a.mark, other.Boot(), a.boot)
	}
	owed := slices.ContainsFunc(a.held, func(h api.Held) bool { return h.Outcome != 0 && !h.Thanked })
	busy := len(a.going) > 0 || len(a.ends) > 0 || owed || len(a.told) > 0
	if busy && other.Idle() {
		t.Fatal(seed, "idle")
	}
}

func TestAsSlow(t *testing.T) {
	for seed := range int64(150) {
		r := rand.New(rand.NewSource(seed))
		s := disk(t, room)
		slow := &slowAgent{host: 5, mark: first, room: true}
		var a *Agent
		var p *peer
		boots, now := 0, 0
		var told, want []api.Message
		// The peer and the agent know each other at once; all that is told comes.
		begin := func() {
			boots++
			p = &peer{s: newSession(t, boots), a: a}
		}
		open := func() {
			c := usual()
			c.Slots, c.Beat = 1+r.Intn(5), 1+r.Intn(30)
			a = opened(t, c, s)
			slow.begin(a.Boot(), c.Slots, c.Beat)
			begin()
		}
		open()
		round := func() {
			was := a.mail.session.Yours()
			p.events = nil
			p.hand(t, now)
			if a.mail.session.Yours() != was {
				slow.meet()
			}
			told = append(told, p.take(t, now)...)
			more, events := slow.tick(now)
			want = append(want, more...)
			mustHappen(t, "happened", p.events, events...)
			if p.s.Ready() && a.mail.session.Ready() {
				mustTell(t, "told", told, want...)
			}
		}
		settle := func() {
			for range 4 {
				round()
			}
			mustTell(t, "told", told, want...)
			told, want = nil, nil
		}
		settle()
		anyKey := func() api.Key {
			k := key(string(rune('a'+r.Intn(3))), 60*r.Intn(5))
			if r.Intn(10) == 0 {
				k.Host = 6
			}
			return k
		}
		for range 150 {
			now += r.Intn(8)
			switch r.Intn(8) {
			case 0, 1, 2:
				m := dispatch(anyKey(), now-3+r.Intn(40))
				m.At, m.Version = min(now-10+r.Intn(13), m.Until), 1+r.Intn(5)
				mustHappen(t, "a dispatch", p.send(t, now, m), slow.on(m, now)...)
			case 3:
				m := thanks(anyKey())
				mustHappen(t, "thanks", p.send(t, now, m), slow.on(m, now)...)
			case 4:
				m := forget(r.Intn(300))
				if r.Intn(4) > 0 {
					m = thanks(anyKey())
				}
				mustHappen(t, "a forget", p.send(t, now, m), slow.on(m, now)...)
			case 5:
				if len(slow.going) > 0 {
					k, outcome := slow.going[r.Intn(len(slow.going))].Key, 1+r.Intn(2)
					events, e := a.Finish(k, outcome, now)
					wants(t, "Finish", e, api.OK)
					mustHappen(t, "Finish", events, slow.finish(k, outcome, now)...)
				}
			case 6:
				changeRoom(t, r, s, slow)
			case 7:
				switch {
				case r.Intn(8) > 0:
				case r.Intn(2) == 0:
					begin()
				case slow.room:
					open()
				}
				settle()
			}
			if r.Intn(2) == 0 {
				round()
			}
			slow.mustBeAs(t, seed, a)
			if t.Failed() {
				t.Fatal("seed", seed)
			}
		}
	}
}

// changeRoom takes all room of a disk, or gives it back.
func changeRoom(t *testing.T, r *rand.Rand, s *store.Store, slow *slowAgent) {
	t.Helper()
	if r.Intn(2) == 0 {
		return
	}
	if slow.room = !slow.room; slow.room {
		wants(t, "Remove", s.Remove("filler"), api.OK)
		return
	}
	fill(t, s, 0)
}
