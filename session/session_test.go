package session

import (
	"bytes"
	"math"
	"slices"
	"strconv"
	"strings"
	"testing"

	"reveille/api"
)

const (
	mostBoot = 2147483647
	mostBody = 32768
	window   = 64
)

func made(t *testing.T, mine int) *Session {
	t.Helper()
	s, e := New(mine)
	if e != api.OK || s == nil {
		t.Fatal("New", mine, e)
	}
	return s
}

func hello(mine, yours int) api.Envelope {
	return api.Envelope{Kind: api.EnvHello, Mine: mine, Yours: yours}
}

func ack(mine, yours, upTo int) api.Envelope {
	return api.Envelope{Kind: api.EnvAck, Mine: mine, Yours: yours, Ack: upTo}
}

func data(mine, yours, seq, upTo int, body string) api.Envelope {
	return api.Envelope{Kind: api.EnvData, Mine: mine, Yours: yours, Seq: seq, Ack: upTo, Body: []byte(body)}
}

// met is a session of boot 3 whose other one, of boot 5, knows; nothing is due.
func met(t *testing.T) *Session {
	t.Helper()
	s := made(t, 3)
	wantOn(t, s, hello(5, 3), true)
	wantTick(t, s, 0, hello(3, 5))
	return s
}

// numbered is messages as they are put out one after the other: of the numbers, whose text they have.
func numbered(upTo, from, to int) []api.Envelope {
	var l []api.Envelope
	for seq := from; seq <= to; seq++ {
		l = append(l, data(3, 5, seq, upTo, strconv.Itoa(seq)))
	}
	return l
}

// send sends messages of the numbers, whose text they have.
func send(t *testing.T, s *Session, from, to int) {
	t.Helper()
	for seq := from; seq <= to; seq++ {
		if e := s.Send([]byte(strconv.Itoa(seq))); e != api.OK {
			t.Fatal("Send", seq, e)
		}
	}
}

func sameEnvelope(a, b api.Envelope) bool {
	return a.Kind == b.Kind && a.Mine == b.Mine && a.Yours == b.Yours && a.Seq == b.Seq && a.Ack == b.Ack && bytes.Equal(a.Body, b.Body)
}

func wantTick(t *testing.T, s *Session, now int, want ...api.Envelope) {
	t.Helper()
	if got := s.Tick(now); !slices.EqualFunc(got, want, sameEnvelope) {
		t.Errorf("Tick(%d): %v, not %v", now, got, want)
	}
}

func wantOn(t *testing.T, s *Session, e api.Envelope, fresh bool, want ...string) {
	t.Helper()
	bodies, isFresh, err := s.On(e)
	var got []string
	for _, body := range bodies {
		got = append(got, string(body))
	}
	if isFresh != fresh || err != api.OK || !slices.Equal(got, want) {
		t.Errorf("On(%v): %q %v %d, not %q %v", e, got, isFresh, err, want, fresh)
	}
}

func mustBe(t *testing.T, s *Session, ready bool, yours, pending int) {
	t.Helper()
	if s.Ready() != ready || s.Yours() != yours || s.Pending() != pending {
		t.Error("it is", s.Ready(), s.Yours(), s.Pending(), "not", ready, yours, pending)
	}
}

// P13.1

func TestNew(t *testing.T) {
	for _, mine := range []int{1, 2, 1000, mostBoot - 1, mostBoot} {
		s := made(t, mine)
		mustBe(t, s, false, 0, 0)
		wantTick(t, s, 7, hello(mine, 0))
	}
	for _, mine := range []int{0, -1, mostBoot + 1, math.MaxInt, math.MinInt} {
		if s, e := New(mine); s != nil || e != api.ErrArg {
			t.Error(mine, s, e)
		}
	}
}

func wantSend(t *testing.T, s *Session, size int, want api.Errno) {
	t.Helper()
	pending := s.Pending()
	if want == api.OK {
		pending++
	}
	if got := s.Send(make([]byte, size)); got != want || s.Pending() != pending {
		t.Error("Send", size, got, want, s.Pending(), pending)
	}
}

func TestSend(t *testing.T) {
	s := made(t, 3)
	wantSend(t, s, mostBody+1, api.ErrLong)
	wantSend(t, s, mostBody, api.ErrDown)
	wantSend(t, s, 0, api.ErrDown)
	wantOn(t, s, hello(5, 0), true)
	for range window - 2 {
		wantSend(t, s, 0, api.OK)
	}
	wantSend(t, s, mostBody+1, api.ErrLong)
	wantSend(t, s, mostBody, api.OK)
	wantSend(t, s, 1, api.OK)
	wantSend(t, s, 1, api.ErrFull)
	wantSend(t, s, mostBody+1, api.ErrLong)
	mustBe(t, s, false, 5, window)
	wantOn(t, s, ack(5, 3, 2), false)
	wantSend(t, s, 2, api.OK)
	wantSend(t, s, 2, api.OK)
	wantSend(t, s, 2, api.ErrFull)
	told := s.Tick(0)
	if len(told) != 1+window || told[1].Seq != 3 || told[window].Seq != window+2 || len(told[window].Body) != 2 {
		t.Error(told)
	}
	// What was sent is out still.
	wantSend(t, s, 2, api.ErrFull)
}

func TestLastNumber(t *testing.T) {
	s := met(t)
	s.gone = mostBoot - 2
	wantSend(t, s, 1, api.OK)
	wantSend(t, s, 1, api.OK)
	wantSend(t, s, 1, api.ErrFull)
	wantTick(t, s, 0, data(3, 5, mostBoot-1, 0, "\x00"), data(3, 5, mostBoot, 0, "\x00"))
	wantOn(t, s, ack(5, 3, mostBoot), false)
	mustBe(t, s, true, 5, 0)
	wantSend(t, s, 1, api.ErrFull)
	// The numbers begin at 1 with a further boot.
	wantOn(t, s, hello(6, 3), true)
	wantSend(t, s, 1, api.OK)
	wantTick(t, s, 0, hello(3, 6), data(3, 6, 1, 0, "\x00"))
}

func TestLastWanted(t *testing.T) {
	s := met(t)
	s.wanted = mostBoot
	wantOn(t, s, data(5, 3, mostBoot, 0, "a"), false, "a")
	wantOn(t, s, data(5, 3, mostBoot, 0, "a"), false)
	wantTick(t, s, 0, ack(3, 5, mostBoot))
}

// P13.2

func TestOnRefuses(t *testing.T) {
	s := met(t)
	send(t, s, 1, 2)
	wantTick(t, s, 0, numbered(0, 1, 2)...)
	long := data(6, 3, 1, 0, strings.Repeat("a", mostBody+1))
	withBody := ack(6, 3, 2)
	withBody.Body = []byte("a")
	for _, e := range []api.Envelope{{}, hello(0, 3), hello(mostBoot+1, 3), hello(6, -1), data(6, 3, 0, 2, "a"), data(6, 0, 1, 2, "a"), ack(6, 3, -1), ack(6, 3, mostBoot+1), long, withBody, {Kind: 4, Mine: 6, Yours: 3}, {Kind: api.EnvHello, Mine: 6, Yours: 3, Ack: 1}} {
		if bodies, fresh, err := s.On(e); len(bodies) != 0 || fresh || err != api.ErrArg {
			t.Error(e.Kind, bodies, fresh, err)
		}
	}
	mustBe(t, s, true, 5, 2)
	wantTick(t, s, 0)
	wantTick(t, s, 1, numbered(0, 1, 2)...)
}

func TestOnOlder(t *testing.T) {
	s := met(t)
	send(t, s, 1, 2)
	wantTick(t, s, 0, numbered(0, 1, 2)...)
	for _, e := range []api.Envelope{hello(4, 3), hello(4, 0), hello(1, 9), data(4, 3, 1, 2, "a"), ack(4, 3, 2)} {
		wantOn(t, s, e, false)
	}
	mustBe(t, s, true, 5, 2)
	wantTick(t, s, 0)
	wantOn(t, s, data(5, 3, 1, 0, "b"), false, "b")
}

func TestFresh(t *testing.T) {
	for _, yours := range []int{0, 3, 2, 4} {
		s := met(t)
		send(t, s, 1, 3)
		wantTick(t, s, 0, numbered(0, 1, 3)...)
		wantTick(t, s, 1, numbered(0, 1, 3)...)
		wantOn(t, s, data(5, 3, 1, 1, "a"), false, "a")
		wantOn(t, s, data(5, 3, 3, 1, "c"), false)
		wantOn(t, s, hello(8, yours), true)
		mustBe(t, s, yours == 3, 8, 0)
		if yours != 3 {
			wantTick(t, s, math.MinInt, hello(3, 8))
			wantTick(t, s, math.MinInt)
			wantTick(t, s, math.MinInt+1, hello(3, 8))
			wantTick(t, s, math.MinInt+2)
			wantTick(t, s, math.MinInt+3, hello(3, 8))
			wantOn(t, s, ack(8, 3, 0), false)
		} else {
			wantTick(t, s, math.MinInt, hello(3, 8))
		}
		mustBe(t, s, true, 8, 0)
		wantTick(t, s, math.MinInt+3)
		// The numbers begin at 1 on both ways, and the gap too.
		send(t, s, 1, 1)
		wantTick(t, s, 10, data(3, 8, 1, 0, "1"))
		wantTick(t, s, 11, data(3, 8, 1, 0, "1"))
		wantTick(t, s, 12)
		wantTick(t, s, 13, data(3, 8, 1, 0, "1"))
		wantOn(t, s, data(8, 3, 1, 0, "x"), false, "x")
		wantOn(t, s, data(8, 3, 2, 0, "y"), false, "y")
		wantOn(t, s, data(8, 3, 3, 0, "z"), false, "z")
		wantTick(t, s, 14, ack(3, 8, 3))
	}
}

func TestFreshByOthers(t *testing.T) {
	s := made(t, 3)
	wantOn(t, s, data(5, 3, 1, 7, "a"), true, "a")
	wantTick(t, s, 0, hello(3, 5), ack(3, 5, 1))
	wantOn(t, s, data(6, 4, 1, 0, "a"), true)
	mustBe(t, s, false, 6, 0)
	wantTick(t, s, 0, hello(3, 6))
	wantOn(t, s, ack(7, 3, 0), true)
	mustBe(t, s, true, 7, 0)
	// Of a fresh one the hello answers.
	wantTick(t, s, 0, hello(3, 7))
	wantTick(t, s, 9)
	wantOn(t, s, hello(8, 3), true)
	wantTick(t, s, 9, hello(3, 8))
	wantTick(t, s, 99)
}

func TestOnHello(t *testing.T) {
	s := made(t, 3)
	wantOn(t, s, hello(5, 0), true)
	wantTick(t, s, 0, hello(3, 5))
	mustBe(t, s, false, 5, 0)
	wantOn(t, s, hello(5, 3), false)
	mustBe(t, s, true, 5, 0)
	wantTick(t, s, 0, ack(3, 5, 0))
	wantTick(t, s, 99)
	// Who does not know, or knows of another boot, is told so, and what it says is not taken.
	send(t, s, 1, 1)
	wantTick(t, s, 100, data(3, 5, 1, 0, "1"))
	for _, e := range []api.Envelope{hello(5, 0), hello(5, 2), hello(5, 4), data(5, 2, 1, 1, "a"), ack(5, 4, 1)} {
		wantOn(t, s, e, false)
		mustBe(t, s, true, 5, 1)
		wantTick(t, s, 100, hello(3, 5))
		wantTick(t, s, 100)
	}
	wantOn(t, s, data(5, 3, 1, 0, "a"), false, "a")
}

func TestAck(t *testing.T) {
	s := met(t)
	send(t, s, 1, 5)
	wantTick(t, s, 0, numbered(0, 1, 5)...)
	for _, one := range []struct{ upTo, pending int }{{0, 5}, {2, 3}, {1, 3}, {2, 3}, {6, 3}, {mostBoot, 3}, {5, 0}, {5, 0}, {6, 0}} {
		wantOn(t, s, ack(5, 3, one.upTo), false)
		mustBe(t, s, true, 5, one.pending)
	}
	wantTick(t, s, 99)
	send(t, s, 6, 8)
	wantTick(t, s, 100, numbered(0, 6, 8)...)
	// A message acknowledges too, also one that came already.
	wantOn(t, s, data(5, 3, 1, 7, "a"), false, "a")
	mustBe(t, s, true, 5, 1)
	wantOn(t, s, data(5, 3, 1, 8, "a"), false)
	mustBe(t, s, true, 5, 0)
}

func TestAckOfUnsent(t *testing.T) {
	s := met(t)
	send(t, s, 1, 3)
	wantTick(t, s, 0, numbered(0, 1, 3)...)
	send(t, s, 4, 6)
	wantOn(t, s, ack(5, 3, 5), false)
	mustBe(t, s, true, 5, 1)
	// The one that is left was not sent yet; the gap was used by the Ack.
	wantTick(t, s, 10, numbered(0, 6, 6)...)
	wantTick(t, s, 11)
	wantTick(t, s, 12, numbered(0, 6, 6)...)
}

func TestOrder(t *testing.T) {
	s := met(t)
	wantOn(t, s, data(5, 3, 2, 0, "b"), false)
	wantTick(t, s, 0, ack(3, 5, 0))
	wantOn(t, s, data(5, 3, 2, 0, "b"), false)
	wantOn(t, s, data(5, 3, 4, 0, "d"), false)
	wantOn(t, s, data(5, 3, 1, 0, "a"), false, "a", "b")
	wantTick(t, s, 0, ack(3, 5, 2))
	wantOn(t, s, data(5, 3, 1, 0, "a"), false)
	wantOn(t, s, data(5, 3, 2, 0, "b"), false)
	wantOn(t, s, data(5, 3, 5, 0, ""), false)
	wantOn(t, s, data(5, 3, 3, 0, "c"), false, "c", "d", "")
	if len(s.in) != 0 {
		t.Error("what was told is in still", len(s.in))
	}
	wantTick(t, s, 0, ack(3, 5, 5))
	wantTick(t, s, 99)
	wantOn(t, s, data(5, 3, 5, 0, ""), false)
	wantTick(t, s, 99, ack(3, 5, 5))
}

func TestWindowOfIn(t *testing.T) {
	s := met(t)
	wantOn(t, s, data(5, 3, 1, 0, "1"), false, "1")
	for _, seq := range []int{window + 2, window + 3, mostBoot} {
		wantOn(t, s, data(5, 3, seq, 0, "far"), false)
		wantTick(t, s, 0, ack(3, 5, 1))
	}
	var want []string
	for seq := window + 1; seq > 2; seq-- {
		wantOn(t, s, data(5, 3, seq, 0, strconv.Itoa(seq)), false)
		want = append([]string{strconv.Itoa(seq)}, want...)
	}
	wantOn(t, s, data(5, 3, 2, 0, "2"), false, append([]string{"2"}, want...)...)
	wantTick(t, s, 0, ack(3, 5, window+1))
	wantOn(t, s, data(5, 3, window+2, 0, "next"), false, "next")
}

// P13.3

func TestHelloGaps(t *testing.T) {
	s := made(t, 3)
	at := -1000
	for _, gap := range []int{1, 2, 4, 8, 16, 16, 16} {
		wantTick(t, s, at, hello(3, 0))
		wantTick(t, s, at)
		wantTick(t, s, at-1)
		wantTick(t, s, at+gap-1)
		at += gap
	}
	// One Tick that is late counts from its own time on.
	wantTick(t, s, at+100, hello(3, 0))
	wantTick(t, s, at+115)
	wantTick(t, s, at+116, hello(3, 0))
}

func TestDueHelloLeavesTheGap(t *testing.T) {
	s := made(t, 3)
	wantOn(t, s, hello(5, 0), true)
	wantTick(t, s, 10, hello(3, 5))
	// A hello is due, but not yet for want of knowledge: the time stays at 11.
	wantOn(t, s, hello(5, 0), false)
	wantTick(t, s, 10, hello(3, 5))
	wantTick(t, s, 10)
	wantTick(t, s, 11, hello(3, 5))
	wantOn(t, s, hello(5, 0), false)
	wantTick(t, s, 12, hello(3, 5))
	// Both at once: one hello, and the gap is used.
	wantOn(t, s, hello(5, 0), false)
	wantTick(t, s, 13, hello(3, 5))
	wantTick(t, s, 16)
	wantTick(t, s, 17, hello(3, 5))
	wantOn(t, s, hello(5, 3), false)
	wantTick(t, s, 999, ack(3, 5, 0))
}

func TestNothingTillItKnows(t *testing.T) {
	s := made(t, 3)
	wantOn(t, s, hello(5, 0), true)
	send(t, s, 1, 2)
	wantTick(t, s, 0, hello(3, 5))
	wantTick(t, s, 0)
	mustBe(t, s, false, 5, 2)
	wantOn(t, s, hello(5, 3), false)
	wantTick(t, s, 0, numbered(0, 1, 2)...)
	wantTick(t, s, 0)
	wantTick(t, s, 1, numbered(0, 1, 2)...)
}

func TestMessageGaps(t *testing.T) {
	s := met(t)
	send(t, s, 1, 10)
	at := -50
	wantTick(t, s, at, numbered(0, 1, 10)...)
	for _, gap := range []int{1, 2, 4, 8, 16, 16, 16} {
		wantTick(t, s, at+gap-1)
		at += gap
		wantTick(t, s, at, numbered(0, 1, 8)...)
		wantTick(t, s, at)
	}
	// New ones go at once, and leave the time of the others.
	send(t, s, 11, 12)
	wantTick(t, s, at+1, numbered(0, 11, 12)...)
	wantTick(t, s, at+15)
	send(t, s, 13, 13)
	wantTick(t, s, at+16, append(numbered(0, 1, 8), numbered(0, 13, 13)...)...)
	wantTick(t, s, at+31)
	wantTick(t, s, at+32, numbered(0, 1, 8)...)
}

func TestAckGivesANewTime(t *testing.T) {
	s := met(t)
	send(t, s, 1, 12)
	wantTick(t, s, 0, numbered(0, 1, 12)...)
	wantTick(t, s, 1, numbered(0, 1, 8)...)
	wantTick(t, s, 3, numbered(0, 1, 8)...)
	wantOn(t, s, ack(5, 3, 2), false)
	// It was due at 7; now it is at 100 and 1, then 2, 4.
	wantTick(t, s, 100)
	wantTick(t, s, 100)
	wantTick(t, s, 101, numbered(0, 3, 10)...)
	wantTick(t, s, 102)
	wantTick(t, s, 103, numbered(0, 3, 10)...)
	wantTick(t, s, 106)
	// An Ack by which none goes gives none.
	wantOn(t, s, ack(5, 3, 2), false)
	wantOn(t, s, ack(5, 3, 13), false)
	wantTick(t, s, 107, numbered(0, 3, 10)...)
	wantTick(t, s, 114)
	wantTick(t, s, 115, numbered(0, 3, 10)...)
	// Several give one.
	wantOn(t, s, ack(5, 3, 3), false)
	wantOn(t, s, ack(5, 3, 4), false)
	wantTick(t, s, 115)
	wantTick(t, s, 116, numbered(0, 5, 12)...)
	wantTick(t, s, 117)
	wantTick(t, s, 118, numbered(0, 5, 12)...)
}

func TestAckOfAll(t *testing.T) {
	s := met(t)
	send(t, s, 1, 3)
	wantTick(t, s, 0, numbered(0, 1, 3)...)
	wantOn(t, s, ack(5, 3, 3), false)
	// The gap of 1 is used, though none is out any more.
	wantTick(t, s, 10)
	wantTick(t, s, 20)
	send(t, s, 4, 4)
	wantTick(t, s, 30, numbered(0, 4, 4)...)
	wantTick(t, s, 31)
	wantTick(t, s, 32, numbered(0, 4, 4)...)
	wantOn(t, s, ack(5, 3, 4), false)
	send(t, s, 5, 5)
	// Here both use it at once: the Ack, and the first one that is sent.
	wantTick(t, s, 40, numbered(0, 5, 5)...)
	wantTick(t, s, 41)
	wantTick(t, s, 42, numbered(0, 5, 5)...)
	wantTick(t, s, 45)
	wantTick(t, s, 46, numbered(0, 5, 5)...)
	wantTick(t, s, 53)
	wantTick(t, s, 54, numbered(0, 5, 5)...)
}

func TestTickOfNone(t *testing.T) {
	s := met(t)
	for now := range 100 {
		wantTick(t, s, now)
	}
	// None of these used the gap.
	send(t, s, 1, 1)
	wantTick(t, s, 100, numbered(0, 1, 1)...)
	wantTick(t, s, 101, numbered(0, 1, 1)...)
}

func TestDataAcknowledges(t *testing.T) {
	s := met(t)
	wantOn(t, s, data(5, 3, 1, 0, "a"), false, "a")
	send(t, s, 1, 2)
	wantTick(t, s, 0, numbered(1, 1, 2)...)
	wantTick(t, s, 0)
	wantOn(t, s, data(5, 3, 2, 0, "b"), false, "b")
	wantTick(t, s, 1, numbered(2, 1, 2)...)
	wantTick(t, s, 2)
	wantOn(t, s, data(5, 3, 3, 0, "c"), false, "c")
	wantTick(t, s, 2, ack(3, 5, 3))
	wantTick(t, s, 2)
	wantOn(t, s, hello(5, 2), false)
	wantOn(t, s, data(5, 3, 4, 0, "d"), false, "d")
	send(t, s, 3, 3)
	wantTick(t, s, 3, append(append([]api.Envelope{hello(3, 5)}, numbered(4, 1, 2)...), numbered(4, 3, 3)...)...)
}

func TestGreatTimes(t *testing.T) {
	s := made(t, 3)
	wantTick(t, s, math.MaxInt-1, hello(3, 0))
	wantTick(t, s, math.MaxInt-1)
	wantTick(t, s, math.MaxInt, hello(3, 0))
	wantTick(t, s, math.MaxInt-1)
	wantTick(t, s, math.MaxInt, hello(3, 0))
	wantOn(t, s, hello(5, 3), true)
	send(t, s, 1, 1)
	wantTick(t, s, math.MaxInt, hello(3, 5), data(3, 5, 1, 0, "1"))
	wantTick(t, s, math.MaxInt, numbered(0, 1, 1)...)
	wantTick(t, s, math.MaxInt-1)
	wantTick(t, s, math.MinInt)
	send(t, s, 2, 2)
	wantTick(t, s, math.MaxInt, numbered(0, 1, 2)...)
	wantOn(t, s, ack(5, 3, 1), false)
	// The new time is no later than the Tick itself.
	wantTick(t, s, math.MaxInt, numbered(0, 2, 2)...)
	s = met(t)
	send(t, s, 1, 1)
	wantTick(t, s, math.MinInt, numbered(0, 1, 1)...)
	wantTick(t, s, math.MinInt)
	wantTick(t, s, math.MinInt+1, numbered(0, 1, 1)...)
}

// P13.4

func TestNil(t *testing.T) {
	for _, s := range []*Session{nil, {}} {
		if e := s.Send(nil); e != api.ErrClosed {
			t.Error("Send", e)
		}
		if e := s.Send(make([]byte, mostBody+1)); e != api.ErrClosed {
			t.Error("Send", e)
		}
		for _, e := range []api.Envelope{{}, hello(5, 3)} {
			if bodies, fresh, err := s.On(e); len(bodies) != 0 || fresh || err != api.ErrClosed {
				t.Error("On", bodies, fresh, err)
			}
		}
		if told := s.Tick(0); len(told) != 0 {
			t.Error("Tick", told)
		}
		mustBe(t, s, false, 0, 0)
	}
}

// R3: nothing is shared.

func TestNothingIsShared(t *testing.T) {
	s := met(t)
	body := []byte("1..")[:1]
	send(t, s, 0, 0)
	s.Tick(0)
	s.On(ack(5, 3, 1))
	s.Tick(0)
	s.Send(body)
	body[0] = 'x'
	told := s.Tick(0)
	told[0].Body[0] = 'y'
	wantTick(t, s, 2, data(3, 5, 2, 0, "1"))
	second := data(5, 3, 2, 0, "b...")
	second.Body = second.Body[:1]
	wantOn(t, s, second, false)
	second.Body[0] = 'x'
	first := data(5, 3, 1, 0, "a...")
	first.Body = first.Body[:1]
	bodies, _, _ := s.On(first)
	first.Body[0] = 'x'
	if len(bodies) != 2 || string(bodies[0]) != "a" || string(bodies[1]) != "b" {
		t.Errorf("%q", bodies)
	}
	if string(first.Body[:4]) != "x..." || string(second.Body[:4]) != "x..." || string(body[:3]) != "x.." {
		t.Error("what was handed in")
	}
	_ = append(bodies[0], 'z')
	if string(bodies[1]) != "b" {
		t.Error("spare room")
	}
}

// The chapter's examples.

func TestExample(t *testing.T) {
	a, b := made(t, 1), made(t, 1)
	for now := range 2 {
		for _, e := range a.Tick(now) {
			b.On(e)
		}
		for _, e := range b.Tick(now) {
			a.On(e)
		}
	}
	mustBe(t, a, true, 1, 0)
	mustBe(t, b, true, 1, 0)
}
