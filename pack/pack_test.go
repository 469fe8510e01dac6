package pack

import (
	"bytes"
	"math"
	"slices"
	"strings"
	"testing"

	"reveille/api"
)

// packed is the bytes that are packed by what is done to a Packer.
func packed(t *testing.T, do func(p *Packer)) []byte {
	t.Helper()
	p := New()
	do(p)
	b, e := p.Done()
	if e != api.OK {
		t.Fatal(e)
	}
	return b
}

func mustFail(t *testing.T, name string, p *Packer) {
	t.Helper()
	if b, e := p.Done(); e != api.ErrLong || len(b) != 0 {
		t.Error(name, e, len(b))
	}
}

// full has taken some bytes, up to the limit.
func full(t *testing.T, size int) *Packer {
	t.Helper()
	p := New()
	for range size {
		p.Flag(true)
	}
	if b, e := p.Done(); e != api.OK || len(b) != size {
		t.Fatal(size, e, len(b))
	}
	return p
}

// numberCodes is of numbers their bytes.
func numberCodes() map[uint64]string {
	return map[uint64]string{
		0:              "\x00",
		1:              "\x01",
		127:            "\x7F",
		128:            "\x80\x01",
		255:            "\xFF\x01",
		300:            "\xAC\x02",
		1<<14 - 1:      "\xFF\x7F",
		1 << 14:        "\x80\x80\x01",
		1<<21 - 1:      "\xFF\xFF\x7F",
		1 << 21:        "\x80\x80\x80\x01",
		1 << 56:        "\x80\x80\x80\x80\x80\x80\x80\x80\x01",
		1<<63 - 1:      "\xFF\xFF\xFF\xFF\xFF\xFF\xFF\xFF\x7F",
		1 << 63:        "\x80\x80\x80\x80\x80\x80\x80\x80\x80\x01",
		math.MaxUint64: "\xFF\xFF\xFF\xFF\xFF\xFF\xFF\xFF\xFF\x01",
	}
}

func intCodes() map[int]string {
	return map[int]string{
		0:           "\x00",
		-1:          "\x01",
		1:           "\x02",
		-2:          "\x03",
		63:          "\x7E",
		-64:         "\x7F",
		64:          "\x80\x01",
		-65:         "\x81\x01",
		150:         "\xAC\x02",
		math.MaxInt: "\xFE\xFF\xFF\xFF\xFF\xFF\xFF\xFF\xFF\x01",
		math.MinInt: "\xFF\xFF\xFF\xFF\xFF\xFF\xFF\xFF\xFF\x01",
	}
}

// P6.1

func TestPackNumber(t *testing.T) {
	for n, want := range numberCodes() {
		if got := packed(t, func(p *Packer) { p.Number(n) }); string(got) != want {
			t.Errorf("%d: %X, not %X", n, got, want)
		}
	}
	for bit := range 64 {
		if got := packed(t, func(p *Packer) { p.Number(1 << bit) }); len(got) != bit/7+1 {
			t.Errorf("bit %d: %X", bit, got)
		}
	}
}

func TestPackInt(t *testing.T) {
	for n, want := range intCodes() {
		if got := packed(t, func(p *Packer) { p.Int(n) }); string(got) != want {
			t.Errorf("%d: %X, not %X", n, got, want)
		}
	}
}

func TestPackFlag(t *testing.T) {
	if got := packed(t, func(p *Packer) { p.Flag(false); p.Flag(true) }); string(got) != "\x00\x01" {
		t.Errorf("%X", got)
	}
}

func TestPackText(t *testing.T) {
	for text, want := range map[string]string{
		"":                             "\x00",
		"a":                            "\x01a",
		"\x00\xFF":                     "\x02\x00\xFF",
		"\u00E9":                       "\x02\xC3\xA9",
		strings.Repeat("x", 128):       "\x80\x01" + strings.Repeat("x", 128),
		strings.Repeat("x", 4096):      "\x80\x20" + strings.Repeat("x", 4096),
		strings.Repeat("\u00E9", 2048): "\x80\x20" + strings.Repeat("\u00E9", 2048),
	} {
		if got := packed(t, func(p *Packer) { p.Text(text) }); string(got) != want {
			t.Errorf("%q: %X", text, got)
		}
	}
	p := New()
	p.Text(strings.Repeat("x", 4097))
	mustFail(t, "too long", p)
}

func TestPackList(t *testing.T) {
	if got := packed(t, func(p *Packer) { PutList(p, []string{"a", "", "bc"}, (*Packer).Text) }); string(got) != "\x03\x01a\x00\x02bc" {
		t.Errorf("texts: %X", got)
	}
	if got := packed(t, func(p *Packer) { PutList(p, []int{-1, 150}, (*Packer).Int) }); string(got) != "\x02\x01\xAC\x02" {
		t.Errorf("ints: %X", got)
	}
	if got := packed(t, func(p *Packer) { PutList(p, []bool{true, false}, (*Packer).Flag) }); string(got) != "\x02\x01\x00" {
		t.Errorf("flags: %X", got)
	}
	for _, l := range [][]uint64{nil, {}} {
		if got := packed(t, func(p *Packer) { PutList(p, l, (*Packer).Number) }); string(got) != "\x00" {
			t.Errorf("none: %X", got)
		}
	}
	lists := [][]int{{1}, nil, {2, 3}}
	got := packed(t, func(p *Packer) {
		PutList(p, lists, func(p *Packer, l []int) { PutList(p, l, (*Packer).Int) })
	})
	if string(got) != "\x03\x01\x02\x00\x02\x04\x06" {
		t.Errorf("lists: %X", got)
	}
}

func TestPackManyThings(t *testing.T) {
	flags := make([]bool, 4097)
	if got := packed(t, func(p *Packer) { PutList(p, flags[:4096], (*Packer).Flag) }); len(got) != 2+4096 || string(got[:2]) != "\x80\x20" {
		t.Error("4096", len(got))
	}
	p := New()
	calls := 0
	PutList(p, flags, func(p *Packer, is bool) { calls++ })
	mustFail(t, "4097", p)
	if calls != 0 {
		t.Error("put of a list that is too long", calls)
	}
}

func TestPutIsCalledOfEach(t *testing.T) {
	p := New()
	p.Text(strings.Repeat("x", 4097))
	var seen []int
	PutList(p, []int{5, 6, 7}, func(q *Packer, x int) {
		if q != p {
			t.Error("another Packer")
		}
		seen = append(seen, x)
	})
	if !slices.Equal(seen, []int{5, 6, 7}) {
		t.Error("behind a failure", seen)
	}
	mustFail(t, "failed ahead", p)

	p, seen = New(), nil
	PutList(p, []int{5, 6, 7}, func(p *Packer, x int) {
		seen = append(seen, x)
		p.Text(strings.Repeat("x", 4091+x))
	})
	if !slices.Equal(seen, []int{5, 6, 7}) {
		t.Error("across a failure", seen)
	}
	mustFail(t, "failed within", p)
}

func TestPackIsInOrder(t *testing.T) {
	p := New()
	p.Number(300)
	p.Int(-1)
	p.Flag(true)
	p.Text("ab")
	PutList(p, []int{1}, (*Packer).Int)
	p.Number(0)
	if b, e := p.Done(); e != api.OK || string(b) != "\xAC\x02\x01\x01\x02ab\x01\x02\x00" {
		t.Errorf("%X %d", b, e)
	}
}

func TestPackUpToTheLimit(t *testing.T) {
	for name, c := range map[string]struct {
		size int
		take func(p *Packer)
	}{
		"a flag":          {1, func(p *Packer) { p.Flag(false) }},
		"a number":        {1, func(p *Packer) { p.Number(127) }},
		"a longer number": {2, func(p *Packer) { p.Number(128) }},
		"the longest one": {10, func(p *Packer) { p.Number(math.MaxUint64) }},
		"an int":          {2, func(p *Packer) { p.Int(64) }},
		"no text":         {1, func(p *Packer) { p.Text("") }},
		"a text":          {4, func(p *Packer) { p.Text("abc") }},
		"a long text":     {4098, func(p *Packer) { p.Text(strings.Repeat("x", 4096)) }},
		"no list":         {1, func(p *Packer) { PutList(p, nil, (*Packer).Flag) }},
		"a list":          {3, func(p *Packer) { PutList(p, []bool{true, true}, (*Packer).Flag) }},
		"a long list":     {4098, func(p *Packer) { PutList(p, make([]bool, 4096), (*Packer).Flag) }},
	} {
		p := full(t, api.MaxCode-c.size)
		c.take(p)
		if b, e := p.Done(); e != api.OK || len(b) != api.MaxCode {
			t.Error(name, e, len(b))
		}
		p.Flag(true)
		mustFail(t, name+" and more", p)

		p = full(t, api.MaxCode-c.size+1)
		c.take(p)
		mustFail(t, name, p)
	}
}

func TestNothingIsTakenBehindAFailure(t *testing.T) {
	for name, fail := range map[string]func(p *Packer){
		"a text":     func(p *Packer) { p.Text(strings.Repeat("x", 4097)) },
		"a list":     func(p *Packer) { PutList(p, make([]int, 4097), (*Packer).Int) },
		"no room":    func(p *Packer) { PutList(p, make([]string, 17), longText) },
		"a list's":   func(p *Packer) { PutList(p, []int{4097}, xes) },
		"one within": func(p *Packer) { PutList(p, []int{1, 4097, 1}, xes) },
	} {
		p := New()
		p.Number(1)
		fail(p)
		mustFail(t, name, p)
		p.Number(1)
		p.Int(1)
		p.Flag(true)
		p.Text("")
		PutList(p, nil, (*Packer).Int)
		mustFail(t, name+" and more", p)
	}
}

func longText(p *Packer, _ string) { xes(p, 4096) }

func xes(p *Packer, n int) { p.Text(strings.Repeat("x", n)) }

func TestDoneTwice(t *testing.T) {
	p := New()
	if b, e := p.Done(); e != api.OK || len(b) != 0 {
		t.Error("nothing yet", b, e)
	}
	p.Text("ab")
	first, _ := p.Done()
	again, e := p.Done()
	if e != api.OK || !bytes.Equal(first, again) {
		t.Error(first, again, e)
	}
	p.Flag(true)
	if b, e := p.Done(); e != api.OK || string(b) != "\x02ab\x01" {
		t.Error("and more", b, e)
	}
}

// R1

func TestNilPacker(t *testing.T) {
	var p *Packer
	p.Number(1)
	p.Int(1)
	p.Flag(true)
	p.Text("a")
	p.Text(strings.Repeat("x", 4097))
	PutList(p, []int{1}, func(p *Packer, x int) { t.Error("something is done") })
	PutList(p, make([]int, 4097), (*Packer).Int)
	PutList[int](p, []int{1}, nil)
	if b, e := p.Done(); e != api.ErrClosed || len(b) != 0 {
		t.Error(b, e)
	}
}

func TestPutThatMayNotBe(t *testing.T) {
	p := New()
	PutList[int](p, []int{1}, nil)
	mustFail(t, "nil", p)
	p = New()
	PutList(p, []int{1}, func(p *Packer, x int) { panic("put") })
	mustFail(t, "a panic", p)
	if b := packed(t, func(p *Packer) { PutList[int](p, nil, nil) }); string(b) != "\x00" {
		t.Error("nil of none", b)
	}
}

// R3

func TestDoneIsNew(t *testing.T) {
	p := New()
	p.Text("abc")
	a, _ := p.Done()
	b, _ := p.Done()
	for i := range a[:cap(a)] {
		a[:cap(a)][i] = 0xEE
	}
	if string(b) != "\x03abc" {
		t.Error("shared by answers", b)
	}
	p.Text("de")
	if c, e := p.Done(); e != api.OK || string(c) != "\x03abc\x02de" {
		t.Error("shared with the Packer", c, e)
	}
	if string(b[:cap(b)][:4]) != "\x03abc" || slices.Contains(b[4:cap(b)], 'd') {
		t.Error("room", b[:cap(b)])
	}
}

func TestPutLeavesItsList(t *testing.T) {
	room := []int{1, 2, 3}
	packed(t, func(p *Packer) { PutList(p, room[:2], (*Packer).Int) })
	if !slices.Equal(room, []int{1, 2, 3}) {
		t.Error(room)
	}
}

func TestPackersAreApart(t *testing.T) {
	p, q := New(), New()
	p.Text("a")
	q.Text("b")
	p.Text(strings.Repeat("x", 4097))
	mustFail(t, "the one", p)
	if b, e := q.Done(); e != api.OK || string(b) != "\x01b" {
		t.Error("the other one", b, e)
	}
}
