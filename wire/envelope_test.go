package wire

import (
	"bytes"
	"encoding/hex"
	"math"
	"strings"
	"testing"

	"reveille/api"
)

func body(n int) []byte { return bytes.Repeat([]byte{0xAB}, n) }

// mustFit: it may be an envelope, and what is wrapped is unwrapped.
func mustFit(t *testing.T, name any, one api.Envelope) {
	t.Helper()
	b, e := Wrap(one)
	if !Fits(one) || e != api.OK || string(b) != slowWrap(one) {
		t.Error(name, one, Fits(one), e)
		return
	}
	if got, e := Unwrap(b); e != api.OK || !sameEnvelope(got, one) {
		t.Error(name, got, e, one)
	}
}

// mustNotFit: it may be none, and what were its bytes is none's.
func mustNotFit(t *testing.T, name any, one api.Envelope) {
	t.Helper()
	b, e := Wrap(one)
	if Fits(one) || e != api.ErrArg || len(b) != 0 {
		t.Error(name, one, Fits(one), len(b), e)
	}
	mustBeNone(t, name, slowNumbers(one.Kind, one.Mine, one.Yours, one.Seq, one.Ack)+string(one.Body))
}

func mustBeNone(t *testing.T, name any, b string) {
	t.Helper()
	if one, e := Unwrap([]byte(b)); e != api.ErrCode || !sameEnvelope(one, api.Envelope{}) {
		t.Errorf("%v: %X: %v %v", name, b, one, e)
	}
}

// P11.2

func TestFits(t *testing.T) {
	hello := api.Envelope{Kind: api.EnvHello, Mine: 1}
	data := api.Envelope{Kind: api.EnvData, Mine: 1, Yours: 1, Seq: 1}
	ack := api.Envelope{Kind: api.EnvAck, Mine: 1}
	numbers := []int{0, 1, 2, 127, 128, 300, api.MaxBoot - 1, api.MaxBoot, api.MaxBoot + 1, -1, -api.MaxBoot, math.MaxInt, math.MinInt}
	within := func(least, n int) bool { return n >= least && n <= api.MaxBoot }
	for name, l := range map[string]struct {
		place            func(e *api.Envelope) *int
		hello, data, ack func(n int) bool
	}{
		"Mine": {
			func(e *api.Envelope) *int { return &e.Mine },
			func(n int) bool { return within(1, n) }, func(n int) bool { return within(1, n) }, func(n int) bool { return within(1, n) },
		},
		"Yours": {
			func(e *api.Envelope) *int { return &e.Yours },
			func(n int) bool { return within(0, n) }, func(n int) bool { return within(1, n) }, func(n int) bool { return within(0, n) },
		},
		"Seq": {
			func(e *api.Envelope) *int { return &e.Seq },
			func(n int) bool { return n == 0 }, func(n int) bool { return within(1, n) }, func(n int) bool { return n == 0 },
		},
		"Ack": {
			func(e *api.Envelope) *int { return &e.Ack },
			func(n int) bool { return n == 0 }, func(n int) bool { return within(0, n) }, func(n int) bool { return within(0, n) },
		},
	} {
		for _, n := range numbers {
			for i, one := range []api.Envelope{hello, data, ack} {
				*l.place(&one) = n
				if []func(n int) bool{l.hello, l.data, l.ack}[i](n) {
					mustFit(t, name, one)
				} else {
					mustNotFit(t, name, one)
				}
			}
		}
	}
}

func TestEnvelopeKinds(t *testing.T) {
	for _, kind := range []int{0, 4, 5, 127, 128, 129, 130, 257, 258, 259, -1, math.MaxInt, math.MinInt} {
		mustNotFit(t, kind, api.Envelope{Kind: kind, Mine: 1})
		mustNotFit(t, kind, api.Envelope{Kind: kind, Mine: 1, Yours: 1, Seq: 1})
	}
	mustNotFit(t, "an empty one", api.Envelope{})
}

func TestBodies(t *testing.T) {
	for _, n := range []int{0, 1, 2, 100, 32767, 32768} {
		mustFit(t, n, api.Envelope{Kind: api.EnvData, Mine: api.MaxBoot, Yours: api.MaxBoot, Seq: api.MaxBoot, Ack: api.MaxBoot, Body: body(n)})
	}
	for _, n := range []int{32769, 32770, 65536, 70000} {
		mustNotFit(t, n, api.Envelope{Kind: api.EnvData, Mine: 1, Yours: 1, Seq: 1, Body: body(n)})
	}
	for _, kind := range []int{api.EnvHello, api.EnvAck} {
		mustFit(t, kind, api.Envelope{Kind: kind, Mine: 1, Body: []byte{}})
		for _, n := range []int{1, 2, 32768, 32769} {
			mustNotFit(t, kind, api.Envelope{Kind: kind, Mine: 1, Body: body(n)})
		}
	}
	// A body may be any bytes, also such as a number could have.
	for _, text := range []string{"\x00", "\x80", "\x80\x00", "\xFF\xFF", "\x01\x02\x03"} {
		mustFit(t, text, api.Envelope{Kind: api.EnvData, Mine: 1, Yours: 2, Seq: 3, Ack: 4, Body: []byte(text)})
	}
}

func TestEnvelopeBytes(t *testing.T) {
	for want, one := range map[string]api.Envelope{
		"01 01 00 00 00":                 {Kind: api.EnvHello, Mine: 1},
		"01 AC02 8001 00 00":             {Kind: api.EnvHello, Mine: 300, Yours: 128},
		"02 01 02 03 04":                 {Kind: api.EnvData, Mine: 1, Yours: 2, Seq: 3, Ack: 4},
		"02 01 02 AC02 00 0C 01 61 00":   {Kind: api.EnvData, Mine: 1, Yours: 2, Seq: 300, Body: []byte{0x0C, 1, 0x61, 0}},
		"03 40 00 00 808001":             {Kind: api.EnvAck, Mine: 64, Ack: 16384},
		"03 FFFFFFFF07 FFFFFFFF07 00 00": {Kind: api.EnvAck, Mine: api.MaxBoot, Yours: api.MaxBoot},
	} {
		code, err := hex.DecodeString(strings.ReplaceAll(want, " ", ""))
		if err != nil {
			t.Fatal(err)
		}
		if b, e := Wrap(one); e != api.OK || !bytes.Equal(b, code) {
			t.Errorf("%v: %X %v", one, b, e)
		}
		if got, e := Unwrap(code); e != api.OK || !sameEnvelope(got, one) {
			t.Errorf("%s: %v %v", want, got, e)
		}
	}
}

func TestUnwrapWrong(t *testing.T) {
	mustBeNone(t, "nothing", "")
	for _, b := range []string{"\x01\x01\x00\x00\x00", "\x02\xAC\x02\x02\x03\x04", "\x03\x01\x80\x01\x00\x04"} {
		for i := range len(b) {
			mustBeNone(t, "it ends too early", b[:i])
		}
	}
	for name, b := range map[string]string{
		"a byte behind a hello":             "\x01\x01\x00\x00\x00\x00",
		"a byte behind an acknowledgement":  "\x03\x01\x00\x00\x00\x00",
		"a byte too many in the kind":       "\x81\x00\x01\x00\x00\x00",
		"a byte too many in Mine":           "\x01\x81\x00\x00\x00\x00",
		"a byte too many in Yours":          "\x01\x01\x80\x00\x00\x00",
		"a byte too many in Seq":            "\x02\x01\x02\x83\x00\x04",
		"a byte too many in Ack":            "\x02\x01\x02\x03\x84\x00",
		"more than 64 bits":                 "\x01\x81\x80\x80\x80\x80\x80\x80\x80\x80\x02\x00\x00\x00",
		"Mine of 64 bits":                   "\x01\xFF\xFF\xFF\xFF\xFF\xFF\xFF\xFF\xFF\x01\x00\x00\x00",
		"Yours of 64 bits":                  "\x01\x01\x80\x80\x80\x80\x80\x80\x80\x80\x80\x01\x00\x00",
		"Mine of 33 bits, whose last are 1": "\x01\x81\x80\x80\x80\x10\x00\x00\x00",
		"a kind of 33 bits":                 "\x81\x80\x80\x80\x10\x01\x00\x00\x00",
		"a message":                         "\x0C\x01\x61\x00\x0A",
	} {
		mustBeNone(t, name, b)
	}
}

// R3: what is handed in is not changed and not kept.

func TestEnvelopesShareNothing(t *testing.T) {
	row := []byte("body and what is behind it")
	one := api.Envelope{Kind: api.EnvData, Mine: 1, Yours: 2, Seq: 3, Ack: 4, Body: row[:4]}
	b, _ := Wrap(one)
	if string(row) != "body and what is behind it" {
		t.Error("changed", string(row))
	}
	got, _ := Unwrap(b)
	other, _ := Unwrap(b)
	clear(row)
	if string(b) != "\x02\x01\x02\x03\x04body" {
		t.Errorf("kept: %X", b)
	}
	clear(b[:cap(b)])
	clear(got.Body[:cap(got.Body)])
	if string(other.Body) != "body" {
		t.Errorf("shared: %X", other.Body)
	}
}
