package net

import (
	"maps"
	"math/rand"
	"slices"
	"strconv"
	"testing"

	"reveille/api"
)

// The slow net goes by the chapter's words: all packets that there ever were, and what became of each.

const (
	onItsWay = iota
	isTaken
	isLost
)

type slowNet struct {
	places int
	all    []api.Packet
	fates  []int
	unsent int // lost for want of room
}

func (n *slowNet) where(is func(p api.Packet) bool) []int {
	var places []int
	for i, p := range n.all {
		if n.fates[i] == onItsWay && is(p) {
			places = append(places, i)
		}
	}
	return places
}

func (n *slowNet) list() []api.Packet {
	var l []api.Packet
	for _, i := range n.where(func(api.Packet) bool { return true }) {
		l = append(l, n.all[i])
	}
	return l
}

func (n *slowNet) isPlace(place int) bool { return place >= 0 && place < n.places }

func (n *slowNet) send(from, to int, body string) (int, api.Errno) {
	switch {
	case !n.isPlace(from) || !n.isPlace(to):
		return 0, api.ErrArg
	case len(body) > mostBody:
		return 0, api.ErrLong
	case len(n.list()) == mostPackets:
		n.unsent++
		return 0, api.ErrFull
	}
	n.all = append(n.all, packet(len(n.all)+1, from, to, body))
	n.fates = append(n.fates, onItsWay)
	return len(n.all), api.OK
}

// end makes something of the packet of an Id.
func (n *slowNet) end(id, fate int) (api.Packet, api.Errno) {
	there := n.where(func(p api.Packet) bool { return p.Id == id })
	if len(there) == 0 {
		return api.Packet{}, api.ErrNone
	}
	n.fates[there[0]] = fate
	return n.all[there[0]], api.OK
}

func (n *slowNet) again(id int) (int, api.Errno) {
	p, e := n.end(id, onItsWay)
	if e != api.OK {
		return 0, e
	}
	return n.send(p.From, p.To, string(p.Body))
}

func (n *slowNet) part(a, b int) (int, api.Errno) {
	if !n.isPlace(a) || !n.isPlace(b) {
		return 0, api.ErrArg
	}
	between := n.where(func(p api.Packet) bool { return p.From == a && p.To == b || p.From == b && p.To == a })
	for _, i := range between {
		n.fates[i] = isLost
	}
	return len(between), api.OK
}

func (n *slowNet) lost() int {
	lost := n.unsent
	for _, fate := range n.fates {
		if fate == isLost {
			lost++
		}
	}
	return lost
}

// both is a net and a slow one.
type both struct {
	n    *Net
	slow *slowNet
}

// do does the same to both, and tells what it was, and whether they answer the same.
func (b *both) do(r *rand.Rand) (call string, same bool) {
	from, to := r.Intn(b.slow.places+2)-1, r.Intn(b.slow.places+2)-1
	body := strconv.Itoa(r.Intn(1000))
	id := len(b.slow.all) + 2 - r.Intn(12+len(b.slow.all)/3)
	switch r.Intn(12) {
	case 0, 1:
		got, e := b.n.Take(id)
		want, wantE := b.slow.end(id, isTaken)
		return "Take", samePacket(got, want) && e == wantE
	case 2:
		_, wantE := b.slow.end(id, isLost)
		return "Drop", b.n.Drop(id) == wantE
	case 3, 4, 5:
		got, e := b.n.Again(id)
		want, wantE := b.slow.again(id)
		return "Again", got == want && e == wantE
	case 6:
		if r.Intn(4) > 0 {
			break
		}
		got, e := b.n.Part(from, to)
		want, wantE := b.slow.part(from, to)
		return "Part", got == want && e == wantE
	}
	got, e := b.n.Send(from, to, []byte(body))
	want, wantE := b.slow.send(from, to, body)
	return "Send", got == want && e == wantE
}

// P12.1 to P12.4

func TestAsTheSlowOne(t *testing.T) {
	for seed := range int64(60) {
		r := rand.New(rand.NewSource(seed))
		places := 1 + r.Intn(5)
		b := both{made(t, places), &slowNet{places: places}}
		for i := range 400 {
			if call, same := b.do(r); !same {
				t.Fatal(seed, i, call)
			}
			mustBe(t, seed, b.n, b.slow.lost(), b.slow.list()...)
			for place := -1; place <= places; place++ {
				var want []int
				for _, i := range b.slow.where(func(p api.Packet) bool { return p.To == place }) {
					want = append(want, b.slow.all[i].Id)
				}
				if got := b.n.To(place); !slices.Equal(got, want) {
					t.Fatal(seed, i, "To", place, got, want)
				}
			}
			if t.Failed() {
				t.Fatal(seed, i)
			}
		}
	}
}

// P12.4: what was sent, and made again, is taken, lost, or on its way; also where there is no room.

func TestNothingVanishes(t *testing.T) {
	r := rand.New(rand.NewSource(1))
	n := full(t, 3)
	fates := map[int]int{}
	for id := range mostPackets {
		fates[id+1] = onItsWay
	}
	unsent := 0
	for range 6000 {
		id := 1 + r.Intn(len(fates))
		var made int
		e := api.OK
		switch r.Intn(5) {
		case 0:
			if _, e := n.Take(id); (e == api.OK) != (fates[id] == onItsWay) {
				t.Fatal("Take", id, e)
			} else if e == api.OK {
				fates[id] = isTaken
			}
			continue
		case 1:
			if e := n.Drop(id); (e == api.OK) != (fates[id] == onItsWay) {
				t.Fatal("Drop", id, e)
			} else if e == api.OK {
				fates[id] = isLost
			}
			continue
		case 2:
			made, e = n.Again(id)
		default:
			made, e = n.Send(r.Intn(3), r.Intn(3), nil)
		}
		switch e {
		case api.OK:
			if made != len(fates)+1 {
				t.Fatal("Id", made)
			}
			fates[made] = onItsWay
		case api.ErrFull:
			unsent++
		}
	}
	counts := map[int]int{}
	for _, id := range slices.Sorted(maps.Keys(fates)) {
		counts[fates[id]]++
	}
	if unsent < 100 || counts[isTaken] < 500 || n.Len() != counts[onItsWay] || n.Lost() != counts[isLost]+unsent {
		t.Error(unsent, counts, n.Len(), n.Lost())
	}
	for _, p := range n.List() {
		if fates[p.Id] != onItsWay {
			t.Error(p.Id, "is on its way")
		}
	}
}
