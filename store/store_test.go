package store

import (
	"bytes"
	"math"
	"slices"
	"strconv"
	"strings"
	"testing"

	"reveille/api"
)

// made is a store with room for so many bytes.
func made(t *testing.T, room int) *Store {
	t.Helper()
	s, e := New(room)
	if e != api.OK || s == nil {
		t.Fatal(room, e)
	}
	return s
}

func wants(t *testing.T, name string, got, want api.Errno) {
	t.Helper()
	if got != want {
		t.Errorf("%s: %d, not %d", name, got, want)
	}
}

// told is what a list says of files, a text each: the sure bytes, a bar, and the others.
func told(s *Store) string {
	var texts []string
	for _, f := range s.List() {
		texts = append(texts, f.Name+"="+string(f.Bytes[:f.Sure])+"|"+string(f.Bytes[f.Sure:]))
	}
	return strings.Join(texts, " ")
}

func tells(t *testing.T, s *Store, want string) {
	t.Helper()
	if got := told(s); got != want {
		t.Errorf("%s, not %s", got, want)
	}
}

// with is a store in which each text, as told says it, is a file.
func with(t *testing.T, files ...string) *Store {
	t.Helper()
	s := made(t, 1000)
	for _, text := range files {
		name, all, _ := strings.Cut(text, "=")
		sure, rest, _ := strings.Cut(all, "|")
		wants(t, text, s.Append(name, []byte(sure)), api.OK)
		wants(t, text, s.Sync(name), api.OK)
		wants(t, text, s.Append(name, []byte(rest)), api.OK)
	}
	tells(t, s, strings.Join(files, " "))
	return s
}

func goodNames() []string {
	return []string{"a", "z", "0", "9", ".", "-", "..", "journal.0000000000", "boot.new", "a-b.c-9", strings.Repeat("x", 24)}
}

func badNames() []string {
	return []string{"", strings.Repeat("x", 25), strings.Repeat("x", 1000), "A", "Z", "aB", "a_b", "a/b", "a b", "a\x00", "\x00", "`", "{", ",", "/", ":", "\u00E9", "a\xFF", "a\n"}
}

// calls are those that a name and the power may refuse, each with a name.
func calls() map[string]func(s *Store, name string) api.Errno {
	return map[string]func(s *Store, name string) api.Errno{
		"Append":      func(s *Store, name string) api.Errno { return s.Append(name, []byte("q")) },
		"Sync":        (*Store).Sync,
		"Cut":         func(s *Store, name string) api.Errno { return s.Cut(name, 1) },
		"Rename from": func(s *Store, name string) api.Errno { return s.Rename(name, "there") },
		"Rename to":   func(s *Store, name string) api.Errno { return s.Rename("there", name) },
		"Remove":      (*Store).Remove,
		"Read": func(s *Store, name string) api.Errno {
			b, e := s.Read(name)
			if e != api.OK && len(b) != 0 {
				return -1
			}
			return e
		},
	}
}

// P7.1

func TestNew(t *testing.T) {
	for _, room := range []int{0, 1, 4096, 1<<26 - 1, 1 << 26} {
		s := made(t, room)
		if s.Room() != room || len(s.List()) != 0 || s.Off() {
			t.Error(room, s.Room(), s.List())
		}
	}
	for _, room := range []int{-1, math.MinInt, 1<<26 + 1, math.MaxInt} {
		if s, e := New(room); s != nil || e != api.ErrArg {
			t.Error(room, e)
		}
	}
}

func TestNames(t *testing.T) {
	for _, name := range goodNames() {
		s := made(t, 9)
		wants(t, name, s.Append(name, []byte("x")), api.OK)
		tells(t, s, name+"=|x")
		for call, do := range calls() {
			s := made(t, 9)
			wants(t, name, s.Append(name, []byte("x")), api.OK)
			wants(t, name, s.Append("there", []byte("y")), api.OK)
			wants(t, call+" "+name, do(s, name), api.OK)
		}
	}
	for _, name := range badNames() {
		s := with(t, "there=a|b")
		for call, do := range calls() {
			wants(t, call+" "+name, do(s, name), api.ErrArg)
		}
		wants(t, name, s.Damage(name, 0, 'x'), api.ErrArg)
		tells(t, s, "there=a|b")
	}
}

func TestNumbersBelowZero(t *testing.T) {
	s := with(t, "a=xy|z")
	for _, n := range []int{-1, math.MinInt} {
		wants(t, "Cut", s.Cut("a", n), api.ErrArg)
		wants(t, "Cut of none", s.Cut("b", n), api.ErrArg)
		wants(t, "Damage", s.Damage("a", n, 'q'), api.ErrArg)
		wants(t, "Damage of none", s.Damage("b", n, 'q'), api.ErrArg)
	}
	s.Stop(0)
	wants(t, "Cut, off", s.Cut("a", -1), api.ErrArg)
	wants(t, "Damage, off", s.Damage("a", -1, 'q'), api.ErrArg)
	tells(t, s, "a=xy|z")
}

func TestErrorsOfOneThatIsOff(t *testing.T) {
	s := with(t, "a=xy|z", "there=|u")
	s.Stop(0)
	for call, do := range calls() {
		wants(t, call, do(s, "a"), api.ErrOff)
		// Whether there is such a file is asked behind the power.
		wants(t, call+" of none", do(s, "b"), api.ErrOff)
		for _, name := range badNames() {
			wants(t, call+" "+name, do(s, name), api.ErrArg)
		}
	}
	wants(t, "no room", s.Append("a", make([]byte, 2000)), api.ErrOff)
	tells(t, s, "a=xy|z there=|u")
}

func TestErrorsOfNone(t *testing.T) {
	s := with(t, "there=a|b")
	for call, do := range calls() {
		if call != "Append" && call != "Rename to" {
			wants(t, call, do(s, "b"), api.ErrNone)
		}
	}
	wants(t, "Rename of none to itself", s.Rename("b", "b"), api.ErrNone)
	wants(t, "Cut to nothing", s.Cut("b", 0), api.ErrNone)
	tells(t, s, "there=a|b")
}

func TestAppend(t *testing.T) {
	s := made(t, 100)
	for _, text := range []string{"xy", "", "z"} {
		wants(t, text, s.Append("a", []byte(text)), api.OK)
	}
	wants(t, "nothing", s.Append("b", nil), api.OK)
	tells(t, s, "a=|xyz b=|")
	wants(t, "Sync", s.Sync("a"), api.OK)
	wants(t, "behind sure ones", s.Append("a", []byte("uv")), api.OK)
	tells(t, s, "a=xyz|uv b=|")
}

func TestRoom(t *testing.T) {
	s := made(t, 5)
	wants(t, "first", s.Append("a", []byte("xyz")), api.OK)
	if s.Room() != 2 {
		t.Error(s.Room())
	}
	wants(t, "too many", s.Append("b", []byte("uvw")), api.ErrFull)
	wants(t, "too many behind", s.Append("a", []byte("uvw")), api.ErrFull)
	tells(t, s, "a=|xyz")
	wants(t, "all", s.Append("b", []byte("uv")), api.OK)
	wants(t, "one more", s.Append("a", []byte("u")), api.ErrFull)
	wants(t, "nothing more", s.Append("c", nil), api.OK)
	if s.Room() != 0 {
		t.Error(s.Room())
	}
	wants(t, "Cut", s.Cut("a", 1), api.OK)
	if s.Room() != 2 {
		t.Error("behind Cut", s.Room())
	}
	wants(t, "Rename", s.Rename("a", "b"), api.OK)
	if s.Room() != 4 {
		t.Error("behind Rename", s.Room())
	}
	wants(t, "Remove", s.Remove("b"), api.OK)
	if s.Room() != 5 {
		t.Error("behind Remove", s.Room())
	}
	wants(t, "as much as there was", s.Append("d", []byte("12345")), api.OK)
	wants(t, "Crash", s.Crash([]api.Kept{{Name: "d", Bytes: 2}}), api.OK)
	if s.Room() != 3 {
		t.Error("behind Crash", s.Room())
	}
}

func TestTheMostRoom(t *testing.T) {
	s := made(t, 1<<26)
	wants(t, "too many", s.Append("a", make([]byte, 1<<26+1)), api.ErrFull)
	wants(t, "all", s.Append("a", make([]byte, 1<<26)), api.OK)
	wants(t, "one more", s.Append("b", []byte("x")), api.ErrFull)
	if s.Room() != 0 {
		t.Error(s.Room())
	}
	s = made(t, 0)
	wants(t, "no room", s.Append("a", []byte("x")), api.ErrFull)
	wants(t, "no bytes", s.Append("a", nil), api.OK)
	tells(t, s, "a=|")
}

func TestMostFiles(t *testing.T) {
	s := made(t, 100)
	for i := range 64 {
		wants(t, "file", s.Append("f"+strconv.Itoa(i), nil), api.OK)
	}
	wants(t, "one too many", s.Append("g", nil), api.ErrFull)
	wants(t, "one too many, with bytes", s.Append("g", []byte("x")), api.ErrFull)
	wants(t, "one that is there", s.Append("f63", []byte("x")), api.OK)
	if l := s.List(); len(l) != 64 {
		t.Error(len(l))
	}
	wants(t, "Rename to a new name", s.Rename("f0", "g"), api.OK)
	wants(t, "as many as ahead", s.Append("f0", nil), api.ErrFull)
	wants(t, "Rename to an old name", s.Rename("g", "f1"), api.OK)
	wants(t, "one fewer", s.Append("h", nil), api.OK)
	wants(t, "full again", s.Append("i", nil), api.ErrFull)
	wants(t, "Remove", s.Remove("h"), api.OK)
	wants(t, "one fewer again", s.Append("i", nil), api.OK)
}

func TestSync(t *testing.T) {
	s := with(t, "a=xy|z", "b=|u")
	wants(t, "Sync", s.Sync("a"), api.OK)
	tells(t, s, "a=xyz| b=|u")
	wants(t, "again", s.Sync("a"), api.OK)
	tells(t, s, "a=xyz| b=|u")
}

func TestCut(t *testing.T) {
	for n, want := range map[int]string{
		0: "a=|", 1: "a=x|", 2: "a=xy|", 3: "a=xy|z", 4: "a=xy|zu", 5: "a=xy|zu", math.MaxInt: "a=xy|zu",
	} {
		s := with(t, "a=xy|zu")
		wants(t, "Cut", s.Cut("a", n), api.OK)
		tells(t, s, want)
	}
	s := with(t, "a=xyz|")
	wants(t, "Cut", s.Cut("a", 1), api.OK)
	wants(t, "Append", s.Append("a", []byte("uv")), api.OK)
	tells(t, s, "a=x|uv")
}

func TestRename(t *testing.T) {
	s := with(t, "a=xy|z", "b=u|v", "c=|w")
	wants(t, "to a new name", s.Rename("a", "d"), api.OK)
	tells(t, s, "b=u|v c=|w d=xyz|")
	wants(t, "to an old name", s.Rename("c", "b"), api.OK)
	tells(t, s, "b=w| d=xyz|")
	wants(t, "the name that was", s.Append("c", []byte("n")), api.OK)
	tells(t, s, "b=w| c=|n d=xyz|")
	wants(t, "to itself", s.Rename("c", "c"), api.OK)
	tells(t, s, "b=w| c=n| d=xyz|")
}

func TestRemove(t *testing.T) {
	s := with(t, "a=xy|z", "b=u|v")
	wants(t, "Remove", s.Remove("a"), api.OK)
	tells(t, s, "b=u|v")
	wants(t, "again", s.Remove("a"), api.ErrNone)
	wants(t, "anew", s.Append("a", []byte("n")), api.OK)
	tells(t, s, "a=|n b=u|v")
	wants(t, "for sure", s.Crash(nil), api.OK)
	tells(t, s, "b=u|")
}

func TestRead(t *testing.T) {
	s := with(t, "a=xy|z", "b=|")
	if b, e := s.Read("a"); e != api.OK || string(b) != "xyz" {
		t.Errorf("%q %d", b, e)
	}
	if b, e := s.Read("b"); e != api.OK || len(b) != 0 {
		t.Errorf("%q %d", b, e)
	}
	all := make([]byte, 256)
	for i := range all {
		all[i] = byte(i)
	}
	wants(t, "all bytes", s.Append("c", all), api.OK)
	if b, e := s.Read("c"); e != api.OK || !bytes.Equal(b, all) {
		t.Errorf("%q %d", b, e)
	}
}

// P7.4

func TestList(t *testing.T) {
	s := made(t, 100)
	for _, name := range []string{"b", "a", "a.0000000010", "a.0000000009", "-", "z", "9", "aa", "."} {
		wants(t, name, s.Append(name, []byte(name)), api.OK)
	}
	wants(t, "Sync", s.Sync("aa"), api.OK)
	want := []string{"-", ".", "9", "a", "a.0000000009", "a.0000000010", "aa", "b", "z"}
	for range 2 {
		var names []string
		for _, f := range s.List() {
			names = append(names, f.Name)
			if string(f.Bytes) != f.Name || (f.Sure != 0) != (f.Name == "aa") || f.Sure > 2 {
				t.Error(f)
			}
		}
		if !slices.Equal(names, want) {
			t.Error(names)
		}
		s.Stop(0)
	}
}

func TestFork(t *testing.T) {
	s := with(t, "a=xy|z", "b=|")
	other := s.Fork()
	tells(t, other, "a=xy|z b=|")
	if other.Room() != s.Room() || other.Off() {
		t.Error(other.Room(), other.Off())
	}
	wants(t, "Append to the one", s.Append("a", []byte("u")), api.OK)
	wants(t, "Append to the other", other.Append("a", []byte("vw")), api.OK)
	wants(t, "Damage of the other", other.Damage("a", 0, 'q'), api.OK)
	wants(t, "Remove from the other", other.Remove("b"), api.OK)
	wants(t, "a new one in the other", other.Append("c", nil), api.OK)
	tells(t, s, "a=xy|zu b=|")
	tells(t, other, "a=qy|zvw c=|")
	if s.Room() != 996 || other.Room() != 995 {
		t.Error(s.Room(), other.Room())
	}
	wants(t, "Sync of the one", s.Sync("a"), api.OK)
	wants(t, "Crash of the other", other.Crash(nil), api.OK)
	tells(t, s, "a=xyzu| b=|")
	tells(t, other, "a=qy|")
}

func TestForkKnowsWhatStays(t *testing.T) {
	s := made(t, 9)
	wants(t, "a", s.Append("a", nil), api.OK)
	wants(t, "b", s.Append("b", nil), api.OK)
	wants(t, "Sync", s.Sync("b"), api.OK)
	other := s.Fork()
	wants(t, "Crash", other.Crash(nil), api.OK)
	tells(t, other, "b=|")
}

func TestForkKnowsThePower(t *testing.T) {
	s := with(t, "a=x|")
	s.Stop(2)
	other := s.Fork()
	wants(t, "the one's first", s.Sync("a"), api.OK)
	wants(t, "the one's second", s.Sync("a"), api.OK)
	if !s.Off() || other.Off() {
		t.Error("one power")
	}
	off := s.Fork()
	if !off.Off() {
		t.Error("a power that came back")
	}
	wants(t, "off", off.Sync("a"), api.ErrOff)
	wants(t, "Crash", off.Crash(nil), api.OK)
	if !s.Off() || off.Off() {
		t.Error("one power behind a crash")
	}
	wants(t, "the other's first", other.Sync("a"), api.OK)
	wants(t, "the other's second", other.Sync("a"), api.OK)
	wants(t, "the other's third", other.Sync("a"), api.ErrOff)
}

func TestOneThatIsNone(t *testing.T) {
	for _, s := range []*Store{nil, {}} {
		for call, do := range calls() {
			for _, name := range []string{"a", ""} {
				wants(t, call, do(s, name), api.ErrClosed)
			}
		}
		wants(t, "Cut below 0", s.Cut("a", -1), api.ErrClosed)
		wants(t, "Crash", s.Crash(nil), api.ErrClosed)
		wants(t, "Crash of one", s.Crash([]api.Kept{{Name: "a"}}), api.ErrClosed)
		wants(t, "Damage", s.Damage("a", 0, 0), api.ErrClosed)
		wants(t, "Damage of no name", s.Damage("", -1, 0), api.ErrClosed)
		s.Stop(0)
		s.Stop(1)
		if s.Off() || s.Room() != 0 || len(s.List()) != 0 || s.Fork() != nil {
			t.Error("there is something")
		}
	}
}

// R3

func TestArgumentsAndAnswersAreApart(t *testing.T) {
	s := made(t, 1000)
	room := []byte("xyzuvw")
	wants(t, "Append", s.Append("a", room[:3]), api.OK)
	wants(t, "Append", s.Append("b", room[3:5]), api.OK)
	if string(room) != "xyzuvw" {
		t.Errorf("%q", room)
	}
	copy(room, "qqqqqq")
	tells(t, s, "a=|xyz b=|uv")
	spoil := func(b []byte) {
		for i := range b[:cap(b)] {
			b[:cap(b)][i] = 'q'
		}
	}
	b, _ := s.Read("a")
	l := s.List()
	spoil(b)
	tells(t, s, "a=|xyz b=|uv")
	if string(l[0].Bytes) != "xyz" {
		t.Errorf("%q", l[0].Bytes)
	}
	spoil(l[0].Bytes)
	if string(l[1].Bytes) != "uv" {
		t.Errorf("%q", l[1].Bytes)
	}
	l = append(l[:1], api.Stored{Name: "z"})
	wants(t, "Append", s.Append("a", []byte("w")), api.OK)
	tells(t, s, "a=|xyzw b=|uv")
	if len(l) != 2 || string(b) != "qqq" {
		t.Error(l, b)
	}
}
