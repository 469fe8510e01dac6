package session

import (
	"math"
	"math/rand"
	"slices"
	"strconv"
	"testing"

	"reveille/api"
)

// The slow session goes by the chapter's words: it keeps all that was ever sent and that came, by numbers.

type slowSession struct {
	mine, yours          int
	knows                bool
	bodies               map[int]string // all that were sent since the other one was begun, by their numbers
	isGone, wasSent      map[int]bool
	came                 map[int]string
	wanted               int
	dueHello, dueAck     bool
	newTime              bool
	helloAny             bool
	helloTime, time      int
	helloGap, messageGap int
}

func newSlow(mine, yours int) *slowSession {
	return &slowSession{
		mine: mine, yours: yours, wanted: 1, helloAny: true, helloGap: 1, messageGap: 1,
		bodies: map[int]string{}, isGone: map[int]bool{}, wasSent: map[int]bool{}, came: map[int]string{},
	}
}

// out is the numbers of the messages that are out, in order.
func (s *slowSession) out(sent bool) []int {
	var l []int
	for seq := 1; seq <= len(s.bodies); seq++ {
		if !s.isGone[seq] && s.wasSent[seq] == sent {
			l = append(l, seq)
		}
	}
	return l
}

func (s *slowSession) pending() int { return len(s.out(true)) + len(s.out(false)) }

func (s *slowSession) send(body string) api.Errno {
	switch {
	case len(body) > mostBody:
		return api.ErrLong
	case s.yours == 0:
		return api.ErrDown
	case s.pending() >= window:
		return api.ErrFull
	}
	s.bodies[len(s.bodies)+1] = body
	return api.OK
}

func (s *slowSession) on(e api.Envelope) (bodies []string, fresh bool) {
	if e.Mine < s.yours {
		return nil, false
	}
	if e.Mine > s.yours {
		*s = *newSlow(s.mine, e.Mine)
		s.dueHello, fresh = true, true
	}
	if e.Yours != s.mine {
		s.dueHello = true
		return nil, fresh
	}
	s.knows = true
	if e.Kind == api.EnvHello {
		if !fresh {
			s.dueAck = true
		}
		return nil, fresh
	}
	if e.Ack < len(s.bodies)+1 {
		for seq := 1; seq <= e.Ack; seq++ {
			if !s.isGone[seq] {
				s.isGone[seq] = true
				s.messageGap = 1
				s.newTime = true
			}
		}
	}
	if e.Kind == api.EnvAck {
		return nil, fresh
	}
	s.dueAck = true
	if e.Seq >= s.wanted && e.Seq < s.wanted+window {
		if _, there := s.came[e.Seq]; !there {
			s.came[e.Seq] = string(e.Body)
		}
		for {
			body, there := s.came[s.wanted]
			if !there {
				break
			}
			bodies = append(bodies, body)
			s.wanted++
		}
	}
	return bodies, fresh
}

func later(now, gap int) int {
	if now > math.MaxInt-gap {
		return math.MaxInt
	}
	return now + gap
}

func twice(gap int) int { return min(16, gap+gap) }

func (s *slowSession) tick(now int) []api.Envelope {
	var told []api.Envelope
	lacks := !s.knows && (s.helloAny || now >= s.helloTime)
	if s.dueHello || lacks {
		told = append(told, hello(s.mine, s.yours))
	}
	if lacks {
		s.helloAny, s.helloTime, s.helloGap = false, later(now, s.helloGap), twice(s.helloGap)
	}
	s.dueHello = false
	if !s.knows {
		return told
	}
	ahead, others := s.out(true), s.out(false)
	var seqs []int
	uses := 0
	if s.newTime {
		s.time, s.messageGap = later(now, s.messageGap), twice(s.messageGap)
		s.newTime = false
	}
	if len(ahead) > 0 && now >= s.time {
		seqs = append(seqs, ahead[:min(8, len(ahead))]...)
		uses++
	}
	seqs = append(seqs, others...)
	if len(ahead) == 0 && len(others) > 0 {
		uses++
	}
	if uses > 0 {
		s.time, s.messageGap = later(now, s.messageGap), twice(s.messageGap)
	}
	for _, seq := range seqs {
		s.wasSent[seq] = true
		told = append(told, data(s.mine, s.yours, seq, s.wanted-1, s.bodies[seq]))
	}
	if s.dueAck && len(seqs) == 0 {
		told = append(told, ack(s.mine, s.yours, s.wanted-1))
	}
	s.dueAck = false
	return told
}

// randomEnvelope is an envelope that may come to a session, or that none would send.
func randomEnvelope(r *rand.Rand, s *slowSession) api.Envelope {
	e := api.Envelope{Kind: 1 + r.Intn(3), Mine: max(1, s.yours), Yours: s.mine}
	if r.Intn(12) == 0 {
		e.Mine = max(1, s.yours+r.Intn(3)-1)
	}
	if r.Intn(6) == 0 {
		e.Yours = s.mine + r.Intn(3) - 1
	}
	if e.Kind != api.EnvHello {
		e.Ack = max(0, len(s.bodies)+2-r.Intn(8))
	}
	if e.Kind == api.EnvData {
		e.Seq = max(1, s.wanted-2+r.Intn(6))
		if r.Intn(8) == 0 {
			e.Seq = s.wanted + window - 2 + r.Intn(4)
		}
		e.Body = []byte(strconv.Itoa(r.Intn(100)))
		e.Yours = max(1, e.Yours)
	}
	return e
}

// P13.1 to P13.4

func TestAsTheSlowOne(t *testing.T) {
	for seed := range int64(300) {
		r := rand.New(rand.NewSource(seed))
		mine := 1 + r.Intn(3)
		s, slow := made(t, mine), newSlow(mine, 0)
		now := r.Intn(100)
		eager := 1 + r.Intn(12)
		for range 300 {
			switch r.Intn(4) {
			case 0:
				for range r.Intn(eager) {
					body := strconv.Itoa(r.Intn(1000))
					if got, want := s.Send([]byte(body)), slow.send(body); got != want {
						t.Fatal(seed, "Send", got, want)
					}
				}
			case 1:
				e := randomEnvelope(r, slow)
				bodies, fresh := slow.on(e)
				wantOn(t, s, e, fresh, bodies...)
			default:
				now += r.Intn(5)
				wantTick(t, s, now, slow.tick(now)...)
			}
			mustBe(t, s, slow.knows, slow.yours, slow.pending())
			if t.Failed() {
				t.Fatal("seed", seed)
			}
		}
	}
}

// side is one of two that talk over a net that may do anything.
type side struct {
	s    *Session
	boot int
}

// world is two sides, and what is on its way to each of them; what was there once may come again.
type world struct {
	sides [2]side
	onWay [2][]api.Envelope
	r     *rand.Rand
	now   int
	// What was sent and what came, by who sent it and by both boots, its own first.
	sent, got map[[3]int][]string
	count     int
}

func newWorld(t *testing.T, seed int64) *world {
	w := &world{r: rand.New(rand.NewSource(seed)), sent: map[[3]int][]string{}, got: map[[3]int][]string{}}
	for i := range w.sides {
		w.begin(t, i)
	}
	return w
}

// begin lets a side begin anew, with the next boot.
func (w *world) begin(t *testing.T, i int) {
	w.sides[i].boot++
	w.sides[i].s = made(t, w.sides[i].boot)
}

func (w *world) send(i int) {
	s := w.sides[i].s
	w.count++
	body := strconv.Itoa(w.count)
	if s.Send([]byte(body)) == api.OK {
		at := [3]int{i, w.sides[i].boot, s.Yours()}
		w.sent[at] = append(w.sent[at], body)
	}
}

func (w *world) tick(i int) {
	w.onWay[1-i] = append(w.onWay[1-i], w.sides[i].s.Tick(w.now)...)
}

// come lets an envelope come to a side, in any order; stays: it may come again.
func (w *world) come(t *testing.T, i int, place int, stays bool) {
	e := w.onWay[i][place]
	if !stays {
		w.onWay[i] = slices.Delete(w.onWay[i], place, place+1)
	}
	bodies, _, err := w.sides[i].s.On(e)
	if err != api.OK {
		t.Fatal("On", e, err)
	}
	at := [3]int{1 - i, e.Mine, w.sides[i].boot}
	for _, body := range bodies {
		w.got[at] = append(w.got[at], string(body))
	}
}

// check: of each pair of boots, what came is a beginning of what was sent.
func (w *world) check(t *testing.T, seed int64) {
	t.Helper()
	for at, got := range w.got {
		sent := w.sent[at]
		if len(got) > len(sent) || !slices.Equal(got, sent[:len(got)]) {
			t.Fatal(seed, at, got, sent)
		}
	}
}

// roam lets anything happen, with so many crashes of a thousand steps.
func (w *world) roam(t *testing.T, steps, crashes int) {
	for range steps {
		i := w.r.Intn(2)
		switch w.r.Intn(8) {
		case 0, 1:
			w.send(i)
		case 2, 3:
			w.now += w.r.Intn(3)
			w.tick(i)
		case 4:
			if len(w.onWay[i]) > 0 {
				place := w.r.Intn(len(w.onWay[i]))
				w.onWay[i] = slices.Delete(w.onWay[i], place, place+1)
			}
		default:
			if len(w.onWay[i]) > 0 {
				w.come(t, i, w.r.Intn(len(w.onWay[i])), w.r.Intn(3) == 0)
			}
		}
		if w.r.Intn(1000) < crashes {
			w.begin(t, i)
		}
	}
}

// P13.5: in order, each once, up to some, whatever the net does.

func TestInOrderOnce(t *testing.T) {
	came := 0
	for seed := range int64(200) {
		w := newWorld(t, seed)
		w.roam(t, 1500, int(seed%4)*5)
		w.check(t, seed)
		for _, got := range w.got {
			came += len(got)
		}
	}
	if came < 5000 {
		t.Error("too little came", came)
	}
}

// isQuiet: does the other one know this side as it is, and has it all that was sent?
func (w *world) isQuiet(i int) bool {
	s := w.sides[i].s
	return s.Ready() && s.Pending() == 0 && s.Yours() == w.sides[1-i].boot
}

// P13.6: where what is told comes through again and again, all come.

func TestAllCome(t *testing.T) {
	for seed := range int64(200) {
		w := newWorld(t, seed)
		w.roam(t, 600, int(seed%3)*5)
		for left := 20000; left > 0 && !(w.isQuiet(0) && w.isQuiet(1)); left-- {
			w.now++
			for i := range w.sides {
				w.tick(i)
				// Every third one comes, whichever it is; the others are lost.
				for len(w.onWay[1-i]) > 0 {
					if w.r.Intn(3) == 0 {
						w.come(t, 1-i, w.r.Intn(len(w.onWay[1-i])), false)
						continue
					}
					w.onWay[1-i] = w.onWay[1-i][1:]
				}
			}
		}
		w.check(t, seed)
		for i := range w.sides {
			if s := w.sides[i].s; !w.isQuiet(i) {
				t.Fatal(seed, "it is", s.Ready(), s.Pending(), s.Yours())
			}
			at := [3]int{i, w.sides[i].boot, w.sides[1-i].boot}
			if len(w.got[at]) != len(w.sent[at]) {
				t.Fatal(seed, at, len(w.got[at]), len(w.sent[at]))
			}
		}
	}
}
