package session

import (
	"bytes"
	"math"
	"slices"

	"reveille/api"
)

// link is what a session has with one boot of the other one: with a further boot it begins anew.
type link struct {
	yours    int
	knows    bool // does the other one know?
	helloDue bool
	ackDue   bool

	gone  int      // how many messages are out no more: what is out has the numbers behind
	out   [][]byte // what was sent stands ahead of what was not
	sent  int      // how many of these were
	acked bool     // were some let go since the last Tick that could tell?

	wanted int
	in     map[int][]byte // by their numbers, which are above the wanted one

	hello pace // of hellos that go for want of knowledge
	again pace // of messages that were sent
}

func newLink(yours int) link {
	return link{yours: yours, wanted: 1, in: map[int][]byte{}, hello: newPace(), again: newPace()}
}

// next is the number of the next message that is put out.
func (l *link) next() int { return l.gone + len(l.out) + 1 }

// letGo lets the messages go that are acknowledged: all up to a number.
func (l *link) letGo(upTo int) {
	n := upTo - l.gone
	if n <= 0 || upTo >= l.next() {
		return
	}
	l.out = slices.Delete(l.out, 0, n)
	l.gone = upTo
	// One that was not sent yet is acknowledged too, if the net made it up.
	l.sent = max(l.sent-n, 0)
	l.again.gap = 1
	l.acked = true
}

// take takes a message in, and hands out those that follow one another from the wanted one on.
func (l *link) take(seq int, body []byte) [][]byte {
	l.ackDue = true
	if seq < l.wanted || seq >= l.wanted+api.Window {
		return nil
	}
	if _, there := l.in[seq]; !there {
		l.in[seq] = bytes.Clone(body)
	}
	var bodies [][]byte
	for {
		next, there := l.in[l.wanted]
		if !there {
			return bodies
		}
		bodies = append(bodies, next)
		delete(l.in, l.wanted)
		l.wanted++
	}
}

// tellAll tells what is sent now, in order.
func (l *link) tellAll(now int, tell func(e api.Envelope)) {
	l.tellHello(now, tell)
	if !l.knows {
		return
	}
	l.tellOut(now, tell)
	if l.ackDue {
		tell(api.Envelope{Kind: api.EnvAck, Ack: l.wanted - 1})
	}
	l.ackDue = false
}

func (l *link) tellHello(now int, tell func(e api.Envelope)) {
	wanting := !l.knows && l.hello.isOver(now)
	if wanting || l.helloDue {
		tell(api.Envelope{Kind: api.EnvHello})
	}
	if wanting {
		l.hello.use(now)
	}
	l.helloDue = false
}

// tellOut tells messages again, if it is time, and those that were not sent yet.
func (l *link) tellOut(now int, tell func(e api.Envelope)) {
	if l.acked {
		l.again.use(now)
	}
	l.acked = false
	ahead := l.sent
	if ahead > 0 && l.again.isOver(now) {
		l.tellSome(0, min(ahead, api.Burst), tell)
		l.again.use(now)
	}
	l.tellSome(ahead, len(l.out), tell)
	if ahead == 0 && len(l.out) > 0 {
		l.again.use(now)
	}
	l.sent = len(l.out)
}

// tellSome tells messages that are out, from one place to another.
func (l *link) tellSome(from, to int, tell func(e api.Envelope)) {
	for i := from; i < to; i++ {
		tell(api.Envelope{Kind: api.EnvData, Seq: l.gone + 1 + i, Ack: l.wanted - 1, Body: bytes.Clone(l.out[i])})
		// A message acknowledges too.
		l.ackDue = false
	}
}

// pace is from when on something is told again, and the gap that lies behind that.
type pace struct{ at, gap int }

func newPace() pace { return pace{at: math.MinInt, gap: 1} }

func (p *pace) isOver(now int) bool { return now >= p.at }

// use lets the gap lie behind now; the next one is twice as long.
func (p *pace) use(now int) {
	p.at = min(now, math.MaxInt-p.gap) + p.gap
	p.gap = min(2*p.gap, api.MostGap)
}
