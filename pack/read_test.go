package pack

import (
	"bytes"
	"math"
	"math/rand"
	"slices"
	"strings"
	"testing"

	"reveille/api"
)

func mustBeRead(t *testing.T, name any, r *Reader) {
	t.Helper()
	if r.Failed() || r.Left() != 0 || r.Done() != api.OK {
		t.Error(name, r.Failed(), r.Left(), r.Done())
	}
}

// mustStay: it has failed, and whatever is asked of it now, nothing is told.
func mustStay(t *testing.T, name any, r *Reader, left int) {
	t.Helper()
	if r.Number() != 0 || r.Int() != 0 || r.Flag() || r.Text() != "" || len(GetList(r, (*Reader).Int)) != 0 {
		t.Error(name, "something is told")
	}
	if !r.Failed() || r.Left() != left || r.Done() != api.ErrCode {
		t.Error(name, r.Failed(), r.Left(), r.Done())
	}
}

// P6.2

func TestReadNumber(t *testing.T) {
	for want, code := range numberCodes() {
		r := Read([]byte(code + "\x05"))
		if got := r.Number(); got != want || r.Failed() || r.Left() != 1 {
			t.Errorf("%X: %d, not %d", code, got, want)
		}
		if got := r.Number(); got != 5 {
			t.Errorf("behind %X: %d", code, got)
		}
		mustBeRead(t, want, r)
	}
}

func TestReadInt(t *testing.T) {
	for want, code := range intCodes() {
		r := Read([]byte(code))
		if got := r.Int(); got != want {
			t.Errorf("%X: %d, not %d", code, got, want)
		}
		mustBeRead(t, want, r)
	}
}

func TestReadWrongNumber(t *testing.T) {
	for _, code := range []string{
		"", "\x80", "\xFF", "\x80\x80", "\xFF\xFF\xFF\xFF\xFF\xFF\xFF\xFF\xFF",
		"\x80\x00", "\xFF\x00", "\x80\x80\x00", "\x80\x00\x01", "\xFF\xFF\xFF\xFF\xFF\xFF\xFF\xFF\xFF\x00",
		"\xFF\xFF\xFF\xFF\xFF\xFF\xFF\xFF\xFF\x02", "\x80\x80\x80\x80\x80\x80\x80\x80\x80\x03", "\x80\x80\x80\x80\x80\x80\x80\x80\x80\x7F",
		"\x80\x80\x80\x80\x80\x80\x80\x80\x80\x80", "\x80\x80\x80\x80\x80\x80\x80\x80\x80\x81",
		"\x80\x80\x80\x80\x80\x80\x80\x80\x80\x80\x01", "\x80\x80\x80\x80\x80\x80\x80\x80\x80\x80\x00", "\xFF\xFF\xFF\xFF\xFF\xFF\xFF\xFF\xFF\xFF\x01",
		strings.Repeat("\x80", 20) + "\x01", "\x80\x00abc",
	} {
		for name, get := range map[string]func(r *Reader) bool{
			"Number": func(r *Reader) bool { return r.Number() == 0 },
			"Int":    func(r *Reader) bool { return r.Int() == 0 },
			"Text":   func(r *Reader) bool { return r.Text() == "" },
			"List":   func(r *Reader) bool { return len(GetList(r, (*Reader).Number)) == 0 },
		} {
			r := Read([]byte("\x01" + code))
			r.Flag()
			if !get(r) {
				t.Errorf("%s of %X: something is told", name, code)
			}
			mustStay(t, name+" of "+code, r, len(code))
		}
	}
}

func TestReadFlag(t *testing.T) {
	r := Read([]byte{0, 1, 0})
	if r.Flag() || !r.Flag() || r.Flag() {
		t.Error("flags")
	}
	mustBeRead(t, "flags", r)
	r.Flag()
	mustStay(t, "the end", r, 0)
	for c := 2; c < 256; c++ {
		r := Read([]byte{byte(c), 1})
		if r.Flag() {
			t.Error(c)
		}
		mustStay(t, c, r, 2)
	}
}

func TestReadText(t *testing.T) {
	for _, want := range []string{"", "a", "\x00\xFF", "\u00E9", strings.Repeat("x", 127), strings.Repeat("x", 128), strings.Repeat("x", 4096)} {
		b := packed(t, func(p *Packer) { p.Text(want); p.Flag(true) })
		r := Read(b)
		if got := r.Text(); got != want || r.Left() != 1 {
			t.Errorf("%q: %q", want, got)
		}
		if !r.Flag() {
			t.Errorf("behind %q", want)
		}
		mustBeRead(t, want, r)
	}
}

func TestReadWrongText(t *testing.T) {
	for _, code := range []string{
		"\x01", "\x02a", "\x80\x01" + strings.Repeat("x", 127), "\x80\x20" + strings.Repeat("x", 4095),
		"\x81\x20" + strings.Repeat("x", 4097), "\x81\x20" + strings.Repeat("x", 5000), "\x81\x20",
		"\xFF\xFF\xFF\xFF\xFF\xFF\xFF\xFF\xFF\x01abc", "\xFF\xFF\xFF\xFF\xFF\xFF\xFF\xFF\x7Fabc", "\x80\x80\x80\x80\x80\x80\x80\x80\x80\x01abc",
	} {
		r := Read([]byte(code))
		if got := r.Text(); got != "" {
			t.Errorf("%X: %q", code, got)
		}
		mustStay(t, code, r, len(code))
	}
}

func TestReadList(t *testing.T) {
	r := Read([]byte("\x03\x01a\x00\x02bc\x02\x01\xAC\x02\x00\x02\x01\x00"))
	if got := GetList(r, (*Reader).Text); !slices.Equal(got, []string{"a", "", "bc"}) {
		t.Error("texts", got)
	}
	if got := GetList(r, (*Reader).Int); !slices.Equal(got, []int{-1, 150}) {
		t.Error("ints", got)
	}
	if got := GetList(r, (*Reader).Number); len(got) != 0 || r.Failed() {
		t.Error("none", got)
	}
	if got := GetList(r, (*Reader).Flag); !slices.Equal(got, []bool{true, false}) {
		t.Error("flags", got)
	}
	mustBeRead(t, "lists", r)

	r = Read([]byte("\x03\x01\x02\x00\x02\x04\x06"))
	got := GetList(r, func(r *Reader) []int { return GetList(r, (*Reader).Int) })
	if len(got) != 3 || !slices.Equal(got[0], []int{1}) || len(got[1]) != 0 || !slices.Equal(got[2], []int{2, 3}) {
		t.Error("lists", got)
	}
	mustBeRead(t, "lists of lists", r)
}

// TestReadListOfNothing is of things that have no bytes: how many there are is said all the same.
func TestReadListOfNothing(t *testing.T) {
	calls := 0
	count := func(r *Reader) int { calls++; return calls }
	for _, c := range []struct {
		code string
		want int
	}{{"\x00", 0}, {"\x05", 5}, {"\x80\x20", 4096}} {
		calls = 0
		r := Read([]byte(c.code))
		got := GetList(r, count)
		if len(got) != c.want || calls != c.want || c.want > 0 && (got[0] != 1 || got[c.want-1] != c.want) {
			t.Error(c.want, len(got), calls)
		}
		mustBeRead(t, c.want, r)
	}
	calls = 0
	for _, code := range tooMany() {
		r := Read([]byte(code))
		if got := GetList(r, count); len(got) != 0 || calls != 0 {
			t.Errorf("%X: %d things, %d calls", code, len(got), calls)
		}
		mustStay(t, code, r, len(code))
	}
}

// tooMany are beginnings of lists that say more than 4096 things.
func tooMany() []string {
	return []string{
		"\x81\x20", "\x80\x21", "\xFF\x7F", "\x80\x80\x01", "\xFF\xFF\xFF\xFF\x0F",
		"\xFF\xFF\xFF\xFF\xFF\xFF\xFF\xFF\x7F", "\x80\x80\x80\x80\x80\x80\x80\x80\x80\x01", "\xFF\xFF\xFF\xFF\xFF\xFF\xFF\xFF\xFF\x01",
	}
}

// TestACountThatFailsIsLeft: where a list says too many things, the number that says it is left, and all behind it.
func TestACountThatFailsIsLeft(t *testing.T) {
	ints := func(r *Reader) []int { return GetList(r, (*Reader).Int) }
	for _, code := range tooMany() {
		for _, behind := range []string{"", "\x00", "\x05\x06\x07", strings.Repeat("\x00", 5000)} {
			for name, c := range map[string]struct {
				ahead string
				get   func(r *Reader) bool // tells whether nothing of the list is told
			}{
				"first":    {"", func(r *Reader) bool { return len(ints(r)) == 0 }},
				"a number": {"\x00", func(r *Reader) bool { return r.Number() == 0 && !r.Failed() && len(ints(r)) == 0 }},
				"a text":   {"\x02ab", func(r *Reader) bool { return r.Text() == "ab" && !r.Failed() && len(ints(r)) == 0 }},
				"a list":   {"\x01\x02", func(r *Reader) bool { return slices.Equal(ints(r), []int{1}) && !r.Failed() && len(ints(r)) == 0 }},
				"within":   {"\x02\x01\x02", func(r *Reader) bool { return len(GetList(r, ints)) == 0 }},
			} {
				r := Read([]byte(c.ahead + code + behind))
				if !c.get(r) {
					t.Errorf("%s, %X: something is told", name, code)
				}
				mustStay(t, name+" "+code, r, len(code)+len(behind))
			}
		}
	}
}

// TestWhatFailsIsLeft: one that fails reads nothing of what it fails at, whatever the bytes are.
func TestWhatFailsIsLeft(t *testing.T) {
	r := rand.New(rand.NewSource(3))
	failed := 0
	for range 100000 {
		b := make([]byte, r.Intn(12))
		for i := range b {
			b[i] = byte(r.Intn(4)) | byte(r.Intn(2)<<7) | byte(r.Intn(2)<<5)
		}
		in, left := Read(b), len(b)
		for range 4 {
			if left = in.Left(); !readOne(in, r.Intn(5)) {
				break
			}
		}
		if in.Failed() {
			failed++
			mustStay(t, b, in, left)
		}
	}
	if failed < 50000 {
		t.Error("too few failed", failed)
	}
}

// readOne reads a thing, and tells whether that went well: op 0 to 3 a number, an int, a flag, a text; else a list of things without bytes, which can fail at its count alone.
func readOne(r *Reader, op int) bool {
	switch op {
	case 0:
		r.Number()
	case 1:
		r.Int()
	case 2:
		r.Flag()
	case 3:
		r.Text()
	default:
		GetList(r, func(r *Reader) int { return 1 })
	}
	return !r.Failed()
}

func TestReadListThatFails(t *testing.T) {
	for code, left := range map[string]int{
		"\x01":              0,
		"\x02\x01a":         0,
		"\x02\x01a\x02b":    2,
		"\x02\x01a\x80\x00": 2,
		"\x03\x00\x01a\x80": 1,
		"\x02\x05ab":        3,
	} {
		r := Read([]byte(code))
		if got := GetList(r, (*Reader).Text); len(got) != 0 {
			t.Errorf("%X: %q", code, got)
		}
		mustStay(t, code, r, left)
	}
	// Failed ahead of the list: nothing is read, though a list is there.
	r := Read([]byte("\x02\x02\x02"))
	r.Flag()
	if got := GetList(r, func(r *Reader) int { t.Error("get is called"); return 1 }); len(got) != 0 {
		t.Error(got)
	}
	mustStay(t, "ahead", r, 3)
}

func TestDoneOfAReader(t *testing.T) {
	for _, b := range [][]byte{nil, {}} {
		mustBeRead(t, "nothing", Read(b))
	}
	r := Read([]byte{1, 1})
	if r.Failed() || r.Left() != 2 || r.Done() != api.ErrCode {
		t.Error("nothing was read", r.Failed(), r.Left(), r.Done())
	}
	r.Flag()
	if r.Failed() || r.Left() != 1 || r.Done() != api.ErrCode {
		t.Error("some are left", r.Failed(), r.Left(), r.Done())
	}
	r.Flag()
	mustBeRead(t, "all", r)
	r.Number()
	mustStay(t, "beyond the end", r, 0)
}

// R1

func TestNilReader(t *testing.T) {
	var r *Reader
	if r.Number() != 0 || r.Int() != 0 || r.Flag() || r.Text() != "" || r.Left() != 0 || !r.Failed() || r.Done() != api.ErrClosed {
		t.Error("something is told")
	}
	if got := GetList(r, func(r *Reader) int { t.Error("get is called"); return 1 }); len(got) != 0 {
		t.Error(got)
	}
	if got := GetList[int](r, nil); len(got) != 0 {
		t.Error(got)
	}
}

func TestGetThatMayNotBe(t *testing.T) {
	r := Read([]byte{2, 7, 7})
	if got := GetList[int](r, nil); len(got) != 0 {
		t.Error("nil", got)
	}
	mustStay(t, "nil", r, 2)
	r = Read([]byte{2, 1, 7})
	get := func(r *Reader) bool {
		if !r.Flag() {
			panic("get")
		}
		return true
	}
	if got := GetList(r, get); len(got) != 0 {
		t.Error("no panic", got)
	}
	mustStay(t, "a flag", r, 1)
	r = Read([]byte{2, 1, 0})
	if got := GetList(r, get); len(got) != 0 {
		t.Error("a panic", got)
	}
	mustStay(t, "a panic", r, 0)
	r = Read([]byte{0})
	if got := GetList[int](r, nil); len(got) != 0 {
		t.Error("nil of none", got)
	}
	mustBeRead(t, "nil of none", r)
}

// R3

func TestReadKeepsNothing(t *testing.T) {
	b := []byte("\x03abc\x03def")
	r := Read(b)
	clear(b)
	if got := r.Text(); got != "abc" {
		t.Errorf("%q", got)
	}
	copy(b, "zzzzzzzz")
	if got := r.Text(); got != "def" {
		t.Errorf("%q", got)
	}
	b = []byte("\x02\x01\x01")
	r = Read(b)
	GetList(r, (*Reader).Flag)
	if string(b) != "\x02\x01\x01" {
		t.Error("changed", b)
	}
}

func TestListsAreNew(t *testing.T) {
	r := Read([]byte("\x02\x02\x04\x02\x02\x04"))
	a := GetList(r, (*Reader).Int)
	b := GetList(r, (*Reader).Int)
	for i := range a[:cap(a)] {
		a[:cap(a)][i] = 9
	}
	if !slices.Equal(b, []int{1, 2}) {
		t.Error(b)
	}
}

// P6.3

// again reads a thing and packs it: op 0 to 3 a number, an int, a flag, a text; else a list of texts.
func again(r *Reader, p *Packer, op int) {
	switch op {
	case 0:
		p.Number(r.Number())
	case 1:
		p.Int(r.Int())
	case 2:
		p.Flag(r.Flag())
	case 3:
		p.Text(r.Text())
	default:
		PutList(p, GetList(r, (*Reader).Text), (*Packer).Text)
	}
}

func TestWhatIsReadIsPackedToTheSame(t *testing.T) {
	r := rand.New(rand.NewSource(1))
	read := 0
	for range 200000 {
		b := make([]byte, r.Intn(14))
		for i := range b {
			// Small numbers, and those of several bytes, are seen often.
			b[i] = byte(r.Intn(4)) | byte(r.Intn(2)<<7)
			if r.Intn(4) == 0 {
				b[i] = byte(r.Intn(256))
			}
		}
		in, out := Read(b), New()
		// Each thing has a byte at least: there is no end only where one is read for ever.
		for steps := 0; steps < len(b) && !in.Failed() && in.Left() > 0; steps++ {
			again(in, out, r.Intn(5))
		}
		if in.Done() != api.OK {
			continue
		}
		read++
		if got, e := out.Done(); e != api.OK || !bytes.Equal(got, b) {
			t.Fatalf("%X: %X, %d", b, got, e)
		}
	}
	if read < 5000 {
		t.Error("too few were read", read)
	}
}

func TestWhatWasPackedIsRead(t *testing.T) {
	r := rand.New(rand.NewSource(2))
	for range 3000 {
		var ops []int
		var checks []func(r *Reader) bool
		p := New()
		for range r.Intn(20) {
			op := r.Intn(5)
			ops = append(ops, op)
			checks = append(checks, packOne(r, p, op))
		}
		b, e := p.Done()
		if e != api.OK {
			t.Fatal(ops, e)
		}
		in := Read(b)
		for i, check := range checks {
			if !check(in) || in.Failed() {
				t.Fatal(ops, i)
			}
		}
		mustBeRead(t, ops, in)
		// Of a beginning, something cannot be read.
		if len(b) == 0 {
			continue
		}
		in = Read(b[:r.Intn(len(b))])
		for _, op := range ops {
			again(in, New(), op)
		}
		if !in.Failed() || in.Done() != api.ErrCode {
			t.Fatal(ops, "a beginning")
		}
	}
}

// packOne packs a random thing; what it answers asks a Reader whether it comes next.
func packOne(r *rand.Rand, p *Packer, op int) func(r *Reader) bool {
	text := func() string { return strings.Repeat(string(rune(r.Intn(300))), r.Intn(200)) }
	switch n := r.Uint64() >> r.Intn(64); op {
	case 0:
		p.Number(n)
		return func(r *Reader) bool { return r.Number() == n }
	case 1:
		p.Int(int(n))
		return func(r *Reader) bool { return r.Int() == int(n) }
	case 2:
		p.Flag(n&1 == 1)
		return func(r *Reader) bool { return r.Flag() == (n&1 == 1) }
	case 3:
		s := text()
		p.Text(s)
		return func(r *Reader) bool { return r.Text() == s }
	}
	l := make([]string, r.Intn(6))
	for i := range l {
		l[i] = text()
	}
	PutList(p, l, (*Packer).Text)
	return func(r *Reader) bool { return slices.Equal(GetList(r, (*Reader).Text), l) }
}

func TestEachIntIsOneNumber(t *testing.T) {
	for _, n := range []int{0, 1, -1, math.MaxInt, math.MinInt, math.MaxInt - 1, math.MinInt + 1, 1 << 62, -1 << 62} {
		b := packed(t, func(p *Packer) { p.Int(n) })
		want := 2 * uint64(n)
		if n < 0 {
			want = -want - 1
		}
		if got := Read(b).Number(); got != want {
			t.Error(n, got, want)
		}
		if got := Read(b).Int(); got != n {
			t.Error(n, got)
		}
	}
}
