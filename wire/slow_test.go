package wire

import (
	"bytes"
	"encoding/binary"
	"math/rand"
	"reflect"
	"regexp"
	"slices"
	"strings"
	"testing"

	"reveille/api"
)

// The slow ones go by the chapter's words, kind by kind.

var (
	slowWord  = regexp.MustCompile(`^[a-zA-Z0-9_./-]{1,32}$`)
	slowValue = regexp.MustCompile(`^[a-zA-Z0-9_./-]{0,32}$`)
)

func slowMayKey(k api.Key) bool {
	return slowWord.MatchString(k.Job) && slowTime(k.Occ) && k.Occ%60 == 0 && slowHost(k.Host)
}

func slowTime(n int) bool { return n >= -62135596800 && n <= 253402300799 }

func slowHost(n int) bool { return n >= 0 && n <= 65535 }

func slowBoot(n int) bool { return n >= 1 && n <= 2147483647 }

func slowLabels(l []api.Label) bool {
	for i, one := range l {
		if !slowWord.MatchString(one.Key) || !slowValue.MatchString(one.Value) || i > 0 && one.Key <= l[i-1].Key {
			return false
		}
	}
	return len(l) <= 16
}

func slowMay(m api.Message) bool {
	var only api.Message
	ok := false
	switch m.Kind {
	case 1:
		only = api.Message{Key: api.Key{Host: m.Key.Host}, Boot: m.Boot, Labels: m.Labels}
		ok = slowHost(m.Key.Host) && slowBoot(m.Boot) && slowLabels(m.Labels)
	case 2:
		only = api.Message{Key: api.Key{Host: m.Key.Host}, At: m.At}
		ok = slowHost(m.Key.Host) && slowTime(m.At)
	case 3:
		only = api.Message{Key: m.Key, Outcome: m.Outcome}
		ok = slowMayKey(m.Key) && m.Outcome >= 1 && m.Outcome <= 4
	case 4:
		only = api.Message{Key: m.Key, Reason: m.Reason}
		ok = slowMayKey(m.Key) && m.Reason >= 1 && m.Reason <= 7
	case 5:
		only = api.Message{Key: m.Key, Version: m.Version, At: m.At, Until: m.Until}
		ok = slowMayKey(m.Key) && slowBoot(m.Version) && slowTime(m.At) && slowTime(m.Until) && m.At <= m.Until
	case 6:
		only = api.Message{Key: m.Key}
		ok = slowMayKey(m.Key)
	case 7:
		only = api.Message{At: m.At}
		ok = slowTime(m.At)
	}
	only.Kind = m.Kind
	return ok && sameMessage(only, m)
}

// sameMessage: nil and the empty list are the same.
func sameMessage(a, b api.Message) bool {
	same := slices.Equal(a.Labels, b.Labels)
	a.Labels, b.Labels = nil, nil
	return same && reflect.DeepEqual(a, b)
}

func sameEnvelope(a, b api.Envelope) bool {
	same := bytes.Equal(a.Body, b.Body)
	a.Body, b.Body = nil, nil
	return same && reflect.DeepEqual(a, b)
}

// slowInts is ints as bytes: that of n at least 0 is the number 2n, else -2n - 1.
func slowInts(numbers ...int) string {
	var b []byte
	for _, n := range numbers {
		b = binary.AppendVarint(b, int64(n))
	}
	return string(b)
}

func slowNumbers(numbers ...int) string {
	var b []byte
	for _, n := range numbers {
		b = binary.AppendUvarint(b, uint64(n))
	}
	return string(b)
}

func slowText(s string) string { return slowNumbers(len(s)) + s }

func slowKey(k api.Key) string { return slowText(k.Job) + slowInts(k.Occ, k.Host) }

func slowEncode(m api.Message) string {
	kind := slowInts(m.Kind)
	switch m.Kind {
	case 1:
		b := kind + slowInts(m.Key.Host, m.Boot) + slowNumbers(len(m.Labels))
		for _, one := range m.Labels {
			b += slowText(one.Key) + slowText(one.Value)
		}
		return b
	case 2:
		return kind + slowInts(m.Key.Host, m.At)
	case 3:
		return kind + slowKey(m.Key) + slowInts(m.Outcome)
	case 4:
		return kind + slowKey(m.Key) + slowInts(m.Reason)
	case 5:
		return kind + slowKey(m.Key) + slowInts(m.Version, m.At, m.Until)
	case 6:
		return kind + slowKey(m.Key)
	}
	return kind + slowInts(m.At)
}

// slowReader reads anything; what it read is held against the bytes behind it.
type slowReader struct{ left []byte }

func (r *slowReader) int() int {
	n, size := binary.Varint(r.left)
	r.left = r.left[max(size, 0):]
	return int(n)
}

func (r *slowReader) number() int {
	n, size := binary.Uvarint(r.left)
	r.left = r.left[max(size, 0):]
	return int(n)
}

func (r *slowReader) text() string {
	n := min(uint64(r.number()), uint64(len(r.left)))
	s := string(r.left[:n])
	r.left = r.left[n:]
	return s
}

func (r *slowReader) key() api.Key {
	job := r.text()
	occ := r.int()
	return api.Key{Job: job, Occ: occ, Host: r.int()}
}

func slowDecode(b []byte) (api.Message, bool) {
	r := &slowReader{b}
	m := api.Message{Kind: r.int()}
	switch m.Kind {
	case 1:
		m.Key.Host, m.Boot = r.int(), r.int()
		for range min(uint64(r.number()), 17) {
			key := r.text()
			m.Labels = append(m.Labels, api.Label{Key: key, Value: r.text()})
		}
	case 2:
		m.Key.Host, m.At = r.int(), r.int()
	case 3:
		m.Key, m.Outcome = r.key(), r.int()
	case 4:
		m.Key, m.Reason = r.key(), r.int()
	case 5:
		m.Key, m.Version, m.At, m.Until = r.key(), r.int(), r.int(), r.int()
	case 6:
		m.Key = r.key()
	case 7:
		m.At = r.int()
	}
	if !slowMay(m) || slowEncode(m) != string(b) {
		return api.Message{}, false
	}
	return m, true
}

func slowFits(e api.Envelope) bool {
	for _, n := range []int{e.Mine, e.Yours, e.Seq, e.Ack} {
		if n < 0 || n > 2147483647 {
			return false
		}
	}
	switch {
	case e.Mine == 0, len(e.Body) > 32768, e.Kind < 1, e.Kind > 3:
		return false
	case e.Kind == 2:
		return e.Seq > 0 && e.Yours > 0
	}
	return e.Seq == 0 && len(e.Body) == 0 && (e.Kind == 3 || e.Ack == 0)
}

func slowWrap(e api.Envelope) string {
	return string(rune(e.Kind)) + slowNumbers(e.Mine, e.Yours, e.Seq, e.Ack) + string(e.Body)
}

func slowUnwrap(b []byte) (api.Envelope, bool) {
	if len(b) == 0 {
		return api.Envelope{}, false
	}
	r := &slowReader{b[1:]}
	e := api.Envelope{Kind: int(b[0]), Mine: r.number(), Yours: r.number(), Seq: r.number(), Ack: r.number()}
	e.Body = r.left
	if !slowFits(e) || slowWrap(e) != string(b) {
		return api.Envelope{}, false
	}
	return e, true
}

func oneOf[T any](r *rand.Rand, l ...T) T { return l[r.Intn(len(l))] }

func randomKey(r *rand.Rand) api.Key {
	return api.Key{
		Job:  oneOf(r, "a", "b", "nightly", "A-z_0./9", strings.Repeat("x", 32), strings.Repeat("x", 33), "", "a b"),
		Occ:  oneOf(r, 0, 60, -60, 1, 1709287500, api.MinTime, api.MaxTime-59, api.MaxTime, api.MaxTime+1),
		Host: oneOf(r, 0, 1, 63, 64, 65535, 65536, -1),
	}
}

func randomLabels(r *rand.Rand) []api.Label {
	var l []api.Label
	for key := range 18 {
		if r.Intn(1+r.Intn(20)) == 0 {
			l = append(l, api.Label{Key: string(rune('a' + key)), Value: oneOf(r, "", "v", "linux", strings.Repeat("v", 32))})
		}
	}
	if len(l) > 0 && r.Intn(6) == 0 {
		l[r.Intn(len(l))] = oneOf(r, api.Label{Key: "a"}, api.Label{Key: "z"}, api.Label{}, api.Label{Key: "b", Value: "a b"})
	}
	return l
}

// randomMessage has the fields of a kind, mostly.
func randomMessage(r *rand.Rand) api.Message {
	times := []int{0, 1, -1, 60, 1709287500, api.MinTime, api.MaxTime, api.MinTime - 1, api.MaxTime + 1}
	all := api.Message{
		Kind: r.Intn(9), Key: randomKey(r), Version: oneOf(r, 1, 2, 300, api.MaxBoot, 0, -1, api.MaxBoot+1),
		At: oneOf(r, times...), Until: oneOf(r, times...), Outcome: r.Intn(6), Reason: r.Intn(9),
		Boot: oneOf(r, 1, 2, 300, api.MaxBoot, 0, -1, api.MaxBoot+1), Labels: randomLabels(r),
	}
	m := all
	if m.Kind != 1 {
		m.Boot, m.Labels = 0, nil
	}
	if m.Kind != 2 && m.Kind != 5 && m.Kind != 7 {
		m.At = 0
	}
	if m.Kind != 5 {
		m.Version, m.Until = 0, 0
	}
	if m.Kind != 3 {
		m.Outcome = 0
	}
	if m.Kind != 4 {
		m.Reason = 0
	}
	switch m.Kind {
	case 1, 2:
		m.Key = api.Key{Host: m.Key.Host}
	case 7:
		m.Key = api.Key{}
	}
	if r.Intn(10) == 0 {
		value := reflect.ValueOf(&m).Elem()
		i := r.Intn(value.NumField())
		value.Field(i).Set(reflect.ValueOf(all).Field(i))
	}
	return m
}

func randomEnvelope(r *rand.Rand) api.Envelope {
	number := func() int { return oneOf(r, 0, 0, 0, 1, 1, 1, 2, 127, 128, 300, api.MaxBoot, api.MaxBoot+1, -1) }
	e := api.Envelope{Kind: r.Intn(5), Mine: number(), Yours: number()}
	if e.Kind == 2 || r.Intn(8) == 0 {
		e.Seq = number()
		e.Body = make([]byte, oneOf(r, 0, 1, 2, 5, 100, 32768, 32769))
		r.Read(e.Body)
	}
	if e.Kind != 1 || r.Intn(8) == 0 {
		e.Ack = number()
	}
	return e
}

// spoiled is b with something amiss.
func spoiled(r *rand.Rand, b []byte) []byte {
	b = bytes.Clone(b)
	at := r.Intn(len(b) + 1)
	some := []byte{oneOf(r, 0, 1, 2, 3, 0x7F, 0x80, 0x81, 0xFF, byte(r.Intn(256)))}
	switch r.Intn(5) {
	case 0:
		return b[:at]
	case 1:
		return slices.Insert(b, at, some...)
	case 2:
		return slices.Delete(b, max(at-1, 0), at)
	case 3:
		return append(b, some...)
	}
	if at < len(b) {
		b[at] = some[0]
	}
	return b
}

// P11.1, P11.3

func TestMessagesAsTheSlowOnes(t *testing.T) {
	r := rand.New(rand.NewSource(1))
	sound, spoilt := 0, 0
	for range 60000 {
		m := randomMessage(r)
		may := May(m)
		b, e := Encode(m)
		if may != slowMay(m) || MayKey(m.Key) != slowMayKey(m.Key) || (e == api.OK) != may {
			t.Fatal(m, may, e)
		}
		if !may {
			if e != api.ErrArg || len(b) != 0 {
				t.Fatal(m, e, b)
			}
			b = []byte(slowEncode(m))
		} else if sound++; string(b) != slowEncode(m) {
			t.Fatalf("%v: %X", m, b)
		}
		for range 4 {
			got, e := Decode(b)
			want, ok := slowDecode(b)
			if !sameMessage(got, want) || (e == api.OK) != ok || e != api.OK && e != api.ErrCode {
				t.Fatalf("%X: %v %v, not %v %v", b, got, e, want, ok)
			}
			if ok {
				spoilt++
			}
			b = spoiled(r, b)
		}
	}
	if sound < 15000 || spoilt < sound+5000 {
		t.Error("too few", sound, spoilt)
	}
}

// P11.2, P11.3

func TestEnvelopesAsTheSlowOnes(t *testing.T) {
	r := rand.New(rand.NewSource(2))
	sound, spoilt := 0, 0
	for range 30000 {
		one := randomEnvelope(r)
		fits := Fits(one)
		b, e := Wrap(one)
		if fits != slowFits(one) || (e == api.OK) != fits {
			t.Fatal(one, fits, e)
		}
		if !fits {
			if e != api.ErrArg || len(b) != 0 {
				t.Fatal(one, e, b)
			}
			b = []byte(slowWrap(one))
		} else if sound++; string(b) != slowWrap(one) {
			t.Fatalf("%v: %X", one, b)
		}
		for range 4 {
			got, e := Unwrap(b)
			want, ok := slowUnwrap(b)
			if !sameEnvelope(got, want) || (e == api.OK) != ok || e != api.OK && e != api.ErrCode {
				t.Fatalf("%X: %v %v, not %v %v", b, got, e, want, ok)
			}
			if ok {
				spoilt++
			}
			b = spoiled(r, b)
		}
	}
	if sound < 4000 || spoilt < sound+3000 {
		t.Error("too few", sound, spoilt)
	}
}

func TestRandomBytes(t *testing.T) {
	r := rand.New(rand.NewSource(3))
	sound := 0
	for range 300000 {
		b := make([]byte, r.Intn(9))
		r.Read(b)
		if len(b) > 0 {
			b[0] = byte(r.Intn(16))
		}
		m, e := Decode(b)
		if want, ok := slowDecode(b); !sameMessage(m, want) || (e == api.OK) != ok {
			t.Fatalf("%X: %v %v, not %v", b, m, e, want)
		}
		one, err := Unwrap(b)
		if want, ok := slowUnwrap(b); !sameEnvelope(one, want) || (err == api.OK) != ok {
			t.Fatalf("%X: %v %v, not %v", b, one, err, want)
		}
		if e == api.OK || err == api.OK {
			sound++
		}
	}
	if sound < 3000 {
		t.Error("too few", sound)
	}
}
