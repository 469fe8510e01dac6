package wire

import (
	"bytes"
	"encoding/hex"
	"math"
	"slices"
	"strconv"
	"strings"
	"testing"

	"reveille/api"
)

// setting is a field's value, how it is set, and whether it may be.
type setting struct {
	name string
	ok   bool
	set  func(m *api.Message)
}

// settings are those of a number: which values may be, and which may not.
func settings(name string, place func(m *api.Message) *int, may, mayNot []int) []setting {
	var l []setting
	for i, n := range slices.Concat(may, mayNot) {
		l = append(l, setting{name + " " + strconv.Itoa(n), i < len(may), func(m *api.Message) { *place(m) = n }})
	}
	return l
}

func jobs() []setting {
	l := []setting{}
	for job, ok := range map[string]bool{
		"a": true, "Z": true, "0": true, "A-z_0./9": true, "-": true, strings.Repeat("x", 32): true,
		"": false, strings.Repeat("x", 33): false, "a b": false, " a": false, "a,b": false, "ä": false, "a\x00": false, "a:b": false, "a=b": false,
	} {
		l = append(l, setting{"Job " + job, ok, func(m *api.Message) { m.Key.Job = job }})
	}
	return l
}

func labelLists() []setting {
	many := func(n int) []api.Label {
		var l []api.Label
		for i := range n {
			l = append(l, api.Label{Key: string(rune('a' + i)), Value: strings.Repeat("v", 2*i)})
		}
		return l
	}
	l := []setting{}
	for _, one := range []struct {
		name string
		ok   bool
		l    []api.Label
	}{
		{"none", true, nil}, {"empty", true, []api.Label{}}, {"one", true, many(1)}, {"two", true, many(2)}, {"sixteen", true, many(16)},
		{"long", true, []api.Label{{Key: strings.Repeat("k", 32), Value: strings.Repeat("v", 32)}}},
		{"seventeen", false, many(17)}, {"twice", false, []api.Label{{Key: "a"}, {Key: "a", Value: "v"}}}, {"falling", false, []api.Label{{Key: "b"}, {Key: "a"}}},
		{"no key", false, []api.Label{{Value: "v"}}}, {"a key that is no word", false, []api.Label{{Key: "a b"}}}, {"a value that is no word", false, []api.Label{{Key: "a", Value: "b c"}}},
		{"a long key", false, []api.Label{{Key: strings.Repeat("k", 33)}}}, {"a long value", false, []api.Label{{Key: "k", Value: strings.Repeat("v", 33)}}},
	} {
		l = append(l, setting{"Labels " + one.name, one.ok, func(m *api.Message) { m.Labels = one.l }})
	}
	return l
}

// fieldSettings is of each field the values that are tried.
func fieldSettings() map[string][]setting {
	ends := []int{math.MinInt, math.MaxInt, math.MinInt + 8, math.MaxInt - 7}
	times := []int{0, 1, -1, 59, 60, 1709287500, -62135596800, 253402300799}
	noTimes := append([]int{-62135596801, 253402300800}, ends...)
	boots := []int{1, 2, 128, 2147483647}
	noBoots := append([]int{0, -1, 2147483648}, ends...)
	return map[string][]setting{
		"Job":     jobs(),
		"Occ":     settings("Occ", func(m *api.Message) *int { return &m.Key.Occ }, []int{0, 60, -60, 120, 1709287500, -62135596800, 253402300740}, append([]int{1, -1, 59, 61, -59, 30, -62135596860, 253402300800, 253402300799, -62135596799}, ends...)),
		"Host":    settings("Host", func(m *api.Message) *int { return &m.Key.Host }, []int{0, 1, 65535}, append([]int{-1, 65536}, ends...)),
		"Version": settings("Version", func(m *api.Message) *int { return &m.Version }, boots, noBoots),
		"At":      settings("At", func(m *api.Message) *int { return &m.At }, times, noTimes),
		"Until":   settings("Until", func(m *api.Message) *int { return &m.Until }, times, noTimes),
		"Outcome": settings("Outcome", func(m *api.Message) *int { return &m.Outcome }, []int{1, 2, 3, 4}, append([]int{0, 5, -1}, ends...)),
		"Reason":  settings("Reason", func(m *api.Message) *int { return &m.Reason }, []int{1, 2, 3, 4, 5, 6, 7}, append([]int{0, 8, -1}, ends...)),
		"Boot":    settings("Boot", func(m *api.Message) *int { return &m.Boot }, boots, noBoots),
		"Labels":  labelLists(),
	}
}

// kindFields is which fields a kind has, as api.go names them.
func kindFields(kind int) []string {
	return map[int][]string{
		api.MsgRegister: {"Host", "Boot", "Labels"},
		api.MsgBeat:     {"Host", "At"},
		api.MsgResult:   {"Job", "Occ", "Host", "Outcome"},
		api.MsgRefuse:   {"Job", "Occ", "Host", "Reason"},
		api.MsgDispatch: {"Job", "Occ", "Host", "Version", "At", "Until"},
		api.MsgThanks:   {"Job", "Occ", "Host"},
		api.MsgForget:   {"At"},
	}[kind]
}

// plain is a message of a kind that may be: At is the least time, Until the last one, so that each alone may be any.
func plain(kind int) api.Message {
	m := api.Message{Kind: kind}
	for _, name := range kindFields(kind) {
		switch name {
		case "Job":
			m.Key.Job = "a"
		case "Occ":
			m.Key.Occ = 60
		case "Host":
			m.Key.Host = 5
		case "Version":
			m.Version = 3
		case "At":
			m.At = api.MinTime
		case "Until":
			m.Until = api.MaxTime
		case "Outcome":
			m.Outcome = api.Bad
		case "Reason":
			m.Reason = api.ReasonBusy
		case "Boot":
			m.Boot = 2
		case "Labels":
			m.Labels = []api.Label{{Key: "os", Value: "linux"}, {Key: "z"}}
		}
	}
	return m
}

// mustBe: it may be a message, and what is encoded is decoded.
func mustBe(t *testing.T, name any, m api.Message) {
	t.Helper()
	b, e := Encode(m)
	if !May(m) || e != api.OK {
		t.Error(name, m, May(m), e)
		return
	}
	got, e := Decode(b)
	if e != api.OK || !sameMessage(got, m) {
		t.Errorf("%v: %X: %v %v, not %v", name, b, got, e, m)
	}
}

// mustNotBe: it may be none, and what were its bytes says nothing.
func mustNotBe(t *testing.T, name any, m api.Message) {
	t.Helper()
	b, e := Encode(m)
	if May(m) || e != api.ErrArg || len(b) != 0 {
		t.Error(name, m, May(m), b, e)
	}
}

func mustSayNothing(t *testing.T, name any, b string) {
	t.Helper()
	m, e := Decode([]byte(b))
	if e != api.ErrCode || !sameMessage(m, api.Message{}) {
		t.Errorf("%v: %X: %v %v", name, b, m, e)
	}
}

// P11.1

func TestMayKey(t *testing.T) {
	for _, name := range []string{"Job", "Occ", "Host"} {
		for _, one := range fieldSettings()[name] {
			m := plain(api.MsgThanks)
			one.set(&m)
			if got := MayKey(m.Key); got != one.ok {
				t.Error(one.name, got)
			}
		}
	}
	if MayKey(api.Key{}) {
		t.Error("an empty one")
	}
}

func TestFields(t *testing.T) {
	for kind := 1; kind <= 7; kind++ {
		mustBe(t, kind, plain(kind))
		for name, l := range fieldSettings() {
			has := slices.Contains(kindFields(kind), name)
			for _, one := range l {
				m := plain(kind)
				one.set(&m)
				switch {
				case has && one.ok, sameMessage(m, plain(kind)):
					mustBe(t, one.name, m)
				case has:
					mustNotBe(t, one.name, m)
					mustSayNothing(t, one.name, slowEncode(m))
				default:
					mustNotBe(t, "a field too many: "+one.name, m)
				}
			}
		}
	}
}

func TestKinds(t *testing.T) {
	for _, kind := range []int{0, 8, -1, 9, 64, math.MaxInt, math.MinInt} {
		mustNotBe(t, kind, api.Message{Kind: kind})
		mustSayNothing(t, kind, slowInts(kind))
		for other := 1; other <= 7; other++ {
			m := plain(other)
			b := slowEncode(m)
			m.Kind = kind
			mustNotBe(t, kind, m)
			mustSayNothing(t, kind, slowInts(kind)+b[1:])
		}
	}
	mustNotBe(t, "an empty one", api.Message{})
}

func TestUntil(t *testing.T) {
	for _, one := range []struct {
		at, until int
		ok        bool
	}{
		{0, 0, true}, {59, 60, true}, {-1, 0, true}, {api.MinTime, api.MinTime, true}, {api.MaxTime, api.MaxTime, true}, {api.MinTime, api.MaxTime, true},
		{1, 0, false}, {0, -1, false}, {api.MaxTime, api.MaxTime - 1, false}, {api.MinTime + 1, api.MinTime, false}, {api.MaxTime, api.MinTime, false},
	} {
		m := plain(api.MsgDispatch)
		m.At, m.Until = one.at, one.until
		if one.ok {
			mustBe(t, one, m)
			continue
		}
		mustNotBe(t, one, m)
		mustSayNothing(t, one, slowEncode(m))
	}
}

func TestBytes(t *testing.T) {
	long := strings.Repeat("j", 32)
	for want, m := range map[string]api.Message{
		"02 0A D804 02 02 6F73 05 6C696E7578 01 7A 00": {Kind: api.MsgRegister, Key: api.Key{Host: 5}, Boot: 300, Labels: []api.Label{{Key: "os", Value: "linux"}, {Key: "z"}}},
		"02 00 FEFFFFFF0F 00":                          {Kind: api.MsgRegister, Boot: api.MaxBoot},
		"04 FEFF07 01":                                 {Kind: api.MsgBeat, Key: api.Key{Host: 65535}, At: -1},
		"04 00 00":                                     {Kind: api.MsgBeat},
		"06 05 6A6F622E31 78 00 02":                    {Kind: api.MsgResult, Key: api.Key{Job: "job.1", Occ: 60}, Outcome: api.Good},
		"06 01 61 8885A2FFDF0E 02 08":                  {Kind: api.MsgResult, Key: api.Key{Job: "a", Occ: api.MaxTime - 59, Host: 1}, Outcome: api.Interrupted},
		"08 01 61 77 02 0E":                            {Kind: api.MsgRefuse, Key: api.Key{Job: "a", Occ: -60, Host: 1}, Reason: api.ReasonLost},
		"0A 01 61 F001 06 04 8402 A006":                {Kind: api.MsgDispatch, Key: api.Key{Job: "a", Occ: 120, Host: 3}, Version: 2, At: 130, Until: 400},
		"0C 01 61 00 0A":                               {Kind: api.MsgThanks, Key: api.Key{Job: "a", Host: 5}},
		"0C 20 " + hex.EncodeToString([]byte(long)) + " FFDB8FF9CE03 0A": {Kind: api.MsgThanks, Key: api.Key{Job: long, Occ: api.MinTime, Host: 5}},
		"0E FFDB8FF9CE03": {Kind: api.MsgForget, At: api.MinTime},
		"0E FE85A2FFDF0E": {Kind: api.MsgForget, At: api.MaxTime},
	} {
		code, err := hex.DecodeString(strings.ReplaceAll(want, " ", ""))
		if err != nil {
			t.Fatal(err)
		}
		if b, e := Encode(m); e != api.OK || !bytes.Equal(b, code) {
			t.Errorf("%v: %X %v", m, b, e)
		}
		if got, e := Decode(code); e != api.OK || !sameMessage(got, m) {
			t.Errorf("%s: %v %v", want, got, e)
		}
	}
}

func TestDecodeWrong(t *testing.T) {
	mustSayNothing(t, "nothing", "")
	for kind := 1; kind <= 7; kind++ {
		b := slowEncode(plain(kind))
		for i := range len(b) {
			mustSayNothing(t, "it ends too early", b[:i])
		}
		for c := range 256 {
			mustSayNothing(t, "one byte more", b+string([]byte{byte(c)}))
		}
		mustSayNothing(t, "a byte ahead", "\x00"+b)
		mustSayNothing(t, "twice", b+b)
		mustSayNothing(t, "a byte too many in the kind", string([]byte{b[0] | 0x80, 0})+b[1:])
	}
	for name, b := range map[string]string{
		"a byte too many in a time":           "\x0E\x80\x00",
		"more than 64 bits":                   "\x0E\xFF\xFF\xFF\xFF\xFF\xFF\xFF\xFF\xFF\x7F",
		"a kind of more than 64 bits":         "\x8C\x80\x80\x80\x80\x80\x80\x80\x80\x02\x01a\x00\x0A",
		"a text longer than what is left":     "\x0C\x7Fa\x00\x0A",
		"a text longer than 4096":             "\x0C\x81\x20" + strings.Repeat("a", 4097) + "\x00\x0A",
		"a list of more than is left":         "\x02\x0A\x02\x03\x01a\x00\x01b\x00",
		"a list of less than is left":         "\x02\x0A\x02\x01\x01a\x00\x01b\x00",
		"a list of more than 4096":            "\x02\x0A\x02\x81\x20" + strings.Repeat("\x01a\x00", 4097),
		"labels that do not rise":             "\x02\x0A\x02\x02\x01b\x00\x01a\x00",
		"a label twice":                       "\x02\x0A\x02\x02\x01a\x00\x01a\x01v",
		"seventeen labels":                    "\x02\x0A\x02\x11\x01a\x00\x01b\x00\x01c\x00\x01d\x00\x01e\x00\x01f\x00\x01g\x00\x01h\x00\x01i\x00\x01j\x00\x01k\x00\x01l\x00\x01m\x00\x01n\x00\x01o\x00\x01p\x00\x01q\x00",
		"a byte too many in a list's count":   "\x02\x0A\x02\x80\x00",
		"a byte too many in a text's length":  "\x0C\x81\x00a\x00\x0A",
		"an envelope":                         "\x01\x01\x00\x00\x00",
		"a kind that is odd, so one below 0":  "\x0B\x01a\x00\x0A",
		"a dispatch without a job":            "\x0A\x00\xF0\x01\x06\x04\x84\x02\xA0\x06",
		"a dispatch that is over ahead of it": "\x0A\x01a\xF0\x01\x06\x04\xA0\x06\x84\x02",
	} {
		mustSayNothing(t, name, b)
	}
}

// P11.3

func TestNoTwoHaveTheSameBytes(t *testing.T) {
	seen := map[string]string{}
	for kind := 1; kind <= 7; kind++ {
		for _, l := range fieldSettings() {
			for _, one := range l {
				m := plain(kind)
				one.set(&m)
				b, e := Encode(m)
				if e != api.OK {
					continue
				}
				if other, there := seen[string(b)]; there && other != slowEncode(m) {
					t.Errorf("%X: %v", b, m)
				}
				seen[string(b)] = slowEncode(m)
			}
		}
	}
	if len(seen) < 100 {
		t.Error("too few", len(seen))
	}
}

// R3: what is handed in is not changed and not kept.

func TestMessagesShareNothing(t *testing.T) {
	row := []api.Label{{Key: "os", Value: "linux"}, {Key: "z"}, {Key: "behind", Value: "the end"}}
	m := plain(api.MsgRegister)
	m.Labels = row[:2]
	b, _ := Encode(m)
	May(m)
	kept := bytes.Clone(b)
	if !slices.Equal(row, []api.Label{{Key: "os", Value: "linux"}, {Key: "z"}, {Key: "behind", Value: "the end"}}) {
		t.Error("changed", row)
	}
	one, _ := Decode(b)
	other, _ := Decode(b)
	if !bytes.Equal(b, kept) {
		t.Errorf("changed: %X", b)
	}
	clear(b[:cap(b)])
	one.Labels[0].Value = "bsd"
	_ = append(one.Labels, api.Label{Key: "zz"})
	if !slices.Equal(other.Labels, row[:2]) || row[0].Value != "linux" {
		t.Error("shared", other, row)
	}
	if again, _ := Encode(m); !bytes.Equal(again, kept) {
		t.Errorf("kept: %X", again)
	}
}

// The chapter's example.

func TestExample(t *testing.T) {
	b, e := Encode(api.Message{Kind: api.MsgThanks, Key: api.Key{Job: "a", Occ: 0, Host: 5}})
	if e != api.OK || !bytes.Equal(b, []byte{0x0C, 0x01, 0x61, 0x00, 0x0A}) {
		t.Errorf("%X %v", b, e)
	}
}
