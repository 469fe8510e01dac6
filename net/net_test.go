package net

import (
	"bytes"
	"math"
	"slices"
	"strings"
	"testing"

	"reveille/api"
)

const (
	mostPlaces  = 65537
	mostPackets = 4096
	mostBody    = 32832
)

func made(t *testing.T, places int) *Net {
	t.Helper()
	n, e := New(places)
	if e != api.OK || n == nil {
		t.Fatal("New", places, e)
	}
	return n
}

func sent(t *testing.T, n *Net, from, to int, body string) int {
	t.Helper()
	id, e := n.Send(from, to, []byte(body))
	if e != api.OK {
		t.Fatal("Send", from, to, e)
	}
	return id
}

// full is a net of so many places on which there is room for none.
func full(t *testing.T, places int) *Net {
	t.Helper()
	n := made(t, places)
	for i := range mostPackets {
		if id := sent(t, n, 0, i%places, ""); id != i+1 {
			t.Fatal("Id", id, i+1)
		}
	}
	return n
}

func wants(t *testing.T, name any, got, want api.Errno) {
	t.Helper()
	if got != want {
		t.Errorf("%v: %d, not %d", name, got, want)
	}
}

func samePacket(a, b api.Packet) bool {
	return a.Id == b.Id && a.From == b.From && a.To == b.To && bytes.Equal(a.Body, b.Body)
}

func packet(id, from, to int, body string) api.Packet {
	return api.Packet{Id: id, From: from, To: to, Body: []byte(body)}
}

// mustBe: these are the packets, and so many were lost.
func mustBe(t *testing.T, name any, n *Net, lost int, want ...api.Packet) {
	t.Helper()
	if got := n.List(); !slices.EqualFunc(got, want, samePacket) {
		t.Error(name, got, want)
	}
	if n.Len() != len(want) || n.Lost() != lost {
		t.Error(name, "Len", n.Len(), len(want), "Lost", n.Lost(), lost)
	}
}

// P12.1

func TestNew(t *testing.T) {
	for _, places := range []int{1, 2, 65, 65536, 65537} {
		mustBe(t, places, made(t, places), 0)
	}
	for _, places := range []int{0, -1, 65538, math.MaxInt, math.MinInt} {
		if n, e := New(places); n != nil || e != api.ErrArg {
			t.Error(places, n, e)
		}
	}
}

func TestSend(t *testing.T) {
	n := made(t, 3)
	for i, one := range []api.Packet{packet(1, 0, 2, "a"), packet(2, 2, 0, ""), packet(3, 1, 1, "a"), packet(4, 0, 2, "a")} {
		if id, e := n.Send(one.From, one.To, one.Body); id != i+1 || e != api.OK {
			t.Error(one, id, e)
		}
	}
	mustBe(t, "sent", n, 0, packet(1, 0, 2, "a"), packet(2, 2, 0, ""), packet(3, 1, 1, "a"), packet(4, 0, 2, "a"))
}

func TestSendPlaces(t *testing.T) {
	for _, places := range []int{1, 2, 100, mostPlaces} {
		n := made(t, places)
		for _, other := range []int{-1, places, places + 1, math.MaxInt, math.MinInt} {
			for _, one := range []api.Packet{packet(0, other, 0, "a"), packet(0, 0, other, "a"), packet(0, other, other, "a"), packet(0, other, 0, strings.Repeat("a", mostBody+1))} {
				id, e := n.Send(one.From, one.To, one.Body)
				if id != 0 {
					t.Error("Id", id)
				}
				wants(t, "no place", e, api.ErrArg)
			}
		}
		mustBe(t, places, n, 0)
		sent(t, n, 0, places-1, "a")
		sent(t, n, places-1, 0, "b")
		mustBe(t, places, n, 0, packet(1, 0, places-1, "a"), packet(2, places-1, 0, "b"))
	}
}

func TestSendLong(t *testing.T) {
	n := made(t, 2)
	long := strings.Repeat("a", mostBody)
	for _, size := range []int{mostBody + 1, mostBody + 2, 65536, 1 << 20} {
		id, e := n.Send(0, 1, make([]byte, size))
		if id != 0 {
			t.Error("Id", id)
		}
		wants(t, size, e, api.ErrLong)
	}
	mustBe(t, "refused", n, 0)
	sent(t, n, 0, 1, long)
	sent(t, n, 0, 1, long[1:])
	mustBe(t, "long", n, 0, packet(1, 0, 1, long), packet(2, 0, 1, long[1:]))
}

func TestFull(t *testing.T) {
	n := full(t, 2)
	lost := 0
	for _, refused := range []func() (int, api.Errno){
		func() (int, api.Errno) { return n.Send(0, 1, nil) },
		func() (int, api.Errno) { return n.Send(1, 0, make([]byte, mostBody)) },
		func() (int, api.Errno) { return n.Again(1) },
		func() (int, api.Errno) { return n.Again(mostPackets) },
	} {
		id, e := refused()
		wants(t, "full", e, api.ErrFull)
		if lost++; id != 0 || n.Len() != mostPackets || n.Lost() != lost {
			t.Error("full", id, n.Len(), n.Lost(), lost)
		}
	}
	// What is refused for another reason is not lost.
	_, e := n.Send(0, 2, nil)
	wants(t, "no place", e, api.ErrArg)
	_, e = n.Send(0, 1, make([]byte, mostBody+1))
	wants(t, "long", e, api.ErrLong)
	_, e = n.Again(mostPackets + 1)
	wants(t, "none", e, api.ErrNone)
	if n.Lost() != lost {
		t.Error("Lost", n.Lost(), lost)
	}
	// Where one was taken, there is room for one; no Id is given to what was refused.
	if _, e := n.Take(7); e != api.OK {
		t.Error("Take", e)
	}
	if id := sent(t, n, 0, 1, "x"); id != mostPackets+1 {
		t.Error("Id", id)
	}
	_, e = n.Send(0, 1, nil)
	wants(t, "full again", e, api.ErrFull)
	wants(t, "Drop", n.Drop(8), api.OK)
	if id, e := n.Again(mostPackets + 1); id != mostPackets+2 || e != api.OK {
		t.Error("Again", id, e)
	}
	if n.Len() != mostPackets || n.Lost() != lost+2 {
		t.Error(n.Len(), n.Lost())
	}
}

// P12.2

func TestTake(t *testing.T) {
	for take := 1; take <= 4; take++ {
		n := made(t, 9)
		var want []api.Packet
		for i := 1; i <= 4; i++ {
			sent(t, n, i, i+1, strings.Repeat("b", i))
			if i != take {
				want = append(want, packet(i, i, i+1, strings.Repeat("b", i)))
			}
		}
		got, e := n.Take(take)
		if e != api.OK || !samePacket(got, packet(take, take, take+1, strings.Repeat("b", take))) {
			t.Error(take, got, e)
		}
		mustBe(t, take, n, 0, want...)
		if got, e := n.Take(take); e != api.ErrNone || !samePacket(got, api.Packet{}) {
			t.Error("twice", got, e)
		}
		mustBe(t, take, n, 0, want...)
		// No Id is given twice.
		if id := sent(t, n, 0, 0, ""); id != 5 {
			t.Error("Id", id)
		}
	}
}

func TestNoSuchId(t *testing.T) {
	n := made(t, 2)
	ids := []int{0, -1, 1, 2, 4, math.MaxInt, math.MinInt}
	for round := range 2 {
		for _, id := range ids {
			if got, e := n.Take(id); e != api.ErrNone || !samePacket(got, api.Packet{}) {
				t.Error("Take", id, got, e)
			}
			wants(t, id, n.Drop(id), api.ErrNone)
			if got, e := n.Again(id); e != api.ErrNone || got != 0 {
				t.Error("Again", id, got, e)
			}
		}
		if round == 0 {
			mustBe(t, "empty", n, 0)
			sent(t, n, 0, 1, "")
			sent(t, n, 0, 1, "")
			sent(t, n, 0, 1, "three")
			n.Take(1)
			n.Drop(2)
		}
	}
	mustBe(t, "one", n, 1, packet(3, 0, 1, "three"))
}

func TestDrop(t *testing.T) {
	n := made(t, 4)
	for i := range 4 {
		sent(t, n, i, 0, "")
	}
	wants(t, "the second", n.Drop(2), api.OK)
	mustBe(t, "one", n, 1, packet(1, 0, 0, ""), packet(3, 2, 0, ""), packet(4, 3, 0, ""))
	wants(t, "again", n.Drop(2), api.ErrNone)
	wants(t, "the last", n.Drop(4), api.OK)
	wants(t, "the first", n.Drop(1), api.OK)
	mustBe(t, "three", n, 3, packet(3, 2, 0, ""))
	if _, e := n.Take(3); e != api.OK {
		t.Error(e)
	}
	mustBe(t, "none", n, 3)
}

func TestAgain(t *testing.T) {
	n := made(t, 4)
	sent(t, n, 1, 2, "one")
	sent(t, n, 3, 0, "two")
	for i, of := range []int{1, 1, 3, 2} {
		if id, e := n.Again(of); id != i+3 || e != api.OK {
			t.Error(of, id, e)
		}
	}
	mustBe(t, "again", n, 0, packet(1, 1, 2, "one"), packet(2, 3, 0, "two"), packet(3, 1, 2, "one"), packet(4, 1, 2, "one"), packet(5, 1, 2, "one"), packet(6, 3, 0, "two"))
	wants(t, "the first", n.Drop(1), api.OK)
	if _, e := n.Again(1); e != api.ErrNone {
		t.Error("of one that is lost", e)
	}
	if got, e := n.Take(3); e != api.OK || !samePacket(got, packet(3, 1, 2, "one")) {
		t.Error(got, e)
	}
	mustBe(t, "less", n, 1, packet(2, 3, 0, "two"), packet(4, 1, 2, "one"), packet(5, 1, 2, "one"), packet(6, 3, 0, "two"))
}

func TestPart(t *testing.T) {
	pairs := [][2]int{{0, 1}, {1, 0}, {0, 0}, {1, 1}, {0, 2}, {2, 0}, {1, 2}, {2, 1}, {2, 2}, {0, 1}}
	for a := range 3 {
		for b := range 3 {
			n := made(t, 3)
			var want []api.Packet
			for i, pair := range pairs {
				sent(t, n, pair[0], pair[1], "x")
				if pair != [2]int{a, b} && pair != [2]int{b, a} {
					want = append(want, packet(i+1, pair[0], pair[1], "x"))
				}
			}
			for round, parted := range []int{len(pairs) - len(want), 0} {
				if got, e := n.Part(a, b); got != parted || e != api.OK {
					t.Error(a, b, round, got, parted, e)
				}
				mustBe(t, [2]int{a, b}, n, len(pairs)-len(want), want...)
			}
			// It parts what is on its way, and nothing that comes behind.
			if id := sent(t, n, a, b, "y"); id != len(pairs)+1 || n.Len() != len(want)+1 {
				t.Error(a, b, id, n.Len())
			}
		}
	}
}

func TestPartNoPlaces(t *testing.T) {
	n := made(t, 3)
	sent(t, n, 0, 2, "")
	for _, other := range []int{-1, 3, 4, math.MaxInt, math.MinInt} {
		for _, pair := range [][2]int{{other, 0}, {0, other}, {other, other}} {
			if got, e := n.Part(pair[0], pair[1]); got != 0 || e != api.ErrArg {
				t.Error(pair, got, e)
			}
		}
	}
	mustBe(t, "refused", n, 0, packet(1, 0, 2, ""))
}

// P12.3

func TestTo(t *testing.T) {
	n := made(t, 4)
	for _, to := range []int{2, 0, 2, 1, 2, 0} {
		sent(t, n, to/2, to, "")
	}
	n.Take(3)
	for to, want := range map[int][]int{0: {2, 6}, 1: {4}, 2: {1, 5}, 3: nil, 4: nil, -1: nil, math.MaxInt: nil, math.MinInt: nil} {
		if got := n.To(to); !slices.Equal(got, want) {
			t.Error(to, got, want)
		}
	}
	if _, e := n.Again(1); e != api.OK || !slices.Equal(n.To(2), []int{1, 5, 7}) {
		t.Error("again", e, n.To(2))
	}
	if n.Part(1, 2); len(n.To(2)) != 0 || n.Lost() != 3 {
		t.Error("parted", n.To(2), n.Lost())
	}
}

func TestNetThatIsNone(t *testing.T) {
	for _, n := range []*Net{nil, {}} {
		for range 2 {
			id, e := n.Send(0, 0, nil)
			wants(t, "Send", e, api.ErrClosed)
			_, e = n.Send(-1, 0, make([]byte, mostBody+1))
			wants(t, "Send", e, api.ErrClosed)
			taken, e := n.Take(1)
			wants(t, "Take", e, api.ErrClosed)
			wants(t, "Drop", n.Drop(1), api.ErrClosed)
			again, e := n.Again(1)
			wants(t, "Again", e, api.ErrClosed)
			parted, e := n.Part(0, 0)
			wants(t, "Part", e, api.ErrClosed)
			_, e = n.Part(-1, 0)
			wants(t, "Part", e, api.ErrClosed)
			if id != 0 || again != 0 || parted != 0 || !samePacket(taken, api.Packet{}) {
				t.Error(id, again, parted, taken)
			}
			mustBe(t, "none", n, 0)
			if len(n.To(0)) != 0 {
				t.Error("To", n.To(0))
			}
		}
	}
}

// R3: what is handed in is not changed and not kept; what is answered shares nothing.

func TestShareNothing(t *testing.T) {
	n := made(t, 2)
	row := []byte("body and what is behind it")
	if _, e := n.Send(0, 1, row[:4]); e != api.OK || string(row) != "body and what is behind it" {
		t.Error("changed", string(row), e)
	}
	clear(row)
	if _, e := n.Again(1); e != api.OK {
		t.Error(e)
	}
	want := []api.Packet{packet(1, 0, 1, "body"), packet(2, 0, 1, "body")}
	mustBe(t, "kept", n, 0, want...)
	l, other := n.List(), n.List()
	clear(l[0].Body[:cap(l[0].Body)])
	clear(l[:cap(l)])
	if !slices.EqualFunc(other, want, samePacket) {
		t.Error("two lists", other)
	}
	mustBe(t, "a list", n, 0, want...)
	taken, _ := n.Take(1)
	clear(taken.Body[:cap(taken.Body)])
	mustBe(t, "what was taken", n, 0, want[1])
	ids := n.To(1)
	ids[0] = 9
	if got := n.To(1); !slices.Equal(got, []int{2}) {
		t.Error("To", got)
	}
}

// The chapter's example.

func TestExample(t *testing.T) {
	n := made(t, 2)
	first := sent(t, n, 0, 1, "hello")
	second, e := n.Again(first)
	wants(t, "Again", e, api.OK)
	for _, id := range []int{second, first} {
		p, e := n.Take(id)
		if e != api.OK || string(p.Body) != "hello" || p.Id != id || p.To != 1 {
			t.Error(id, p, e)
		}
	}
	mustBe(t, "taken", n, 0)
}
