package agent

import (
	"bytes"
	"slices"
	"strconv"
	"testing"

	"reveille/api"
	"reveille/frame"
	"reveille/store"
)

func framed(t *testing.T, payload ...byte) []byte {
	t.Helper()
	b, e := frame.Put(nil, payload)
	if e != api.OK {
		t.Fatal("a frame", e)
	}
	return b
}

// has has a store have a file, for sure.
func has(t *testing.T, s *store.Store, name string, b []byte) {
	t.Helper()
	wants(t, "Append", s.Append(name, b), api.OK)
	wants(t, "Sync", s.Sync(name), api.OK)
}

// mustBe: the store has just the boot's file, for sure, of that number.
func mustBe(t *testing.T, name string, s *store.Store, number ...byte) {
	t.Helper()
	l := s.List()
	if len(l) != 1 || l[0].Name != "boot" || l[0].Sure != 12 || !bytes.Equal(l[0].Bytes, framed(t, number...)) {
		t.Errorf("%s: %v", name, l)
	}
}

// P21.1: Boot

func TestBoot(t *testing.T) {
	s := disk(t, 24)
	for n := 1; n < 300; n++ {
		got, e := Boot(s)
		if e != api.OK || got != n {
			t.Fatal(got, e, n)
		}
		mustBe(t, "boot", s, 0, 0, byte(n>>8), byte(n))
		if n%7 == 0 {
			wants(t, "Crash", s.Crash(nil), api.OK)
		}
	}
}

func TestBootOfNumbers(t *testing.T) {
	for _, one := range []struct {
		was  []byte
		want int
		now  []byte
	}{
		{[]byte{0, 0, 0, 0}, 1, []byte{0, 0, 0, 1}},
		{[]byte{0, 0, 0, 255}, 256, []byte{0, 0, 1, 0}},
		{[]byte{0, 255, 255, 255}, 1 << 24, []byte{1, 0, 0, 0}},
		{[]byte{0x12, 0x34, 0x56, 0x78}, 0x12345679, []byte{0x12, 0x34, 0x56, 0x79}},
		{[]byte{0x7F, 0xFF, 0xFF, 0xFE}, 1<<31 - 1, []byte{0x7F, 0xFF, 0xFF, 0xFF}},
	} {
		s := disk(t, room)
		has(t, s, "boot", framed(t, one.was...))
		got, e := Boot(s)
		if e != api.OK || got != one.want {
			t.Error(one.was, got, e)
		}
		mustBe(t, "boot", s, one.now...)
	}
}

func TestBootMayNot(t *testing.T) {
	if got, e := Boot(nil); got != 0 || e != api.ErrArg {
		t.Error("nil", got, e)
	}
	if got, e := Boot(&store.Store{}); got != 0 || e != api.ErrClosed {
		t.Error("no store", got, e)
	}
	good := framed(t, 0, 0, 0, 7)
	wrong := [][]byte{
		{}, good[:11], good[:8], append(slices.Clone(good), 0), append(slices.Clone(good), good...),
		framed(t), framed(t, 0, 0, 7), framed(t, 0, 0, 0, 0, 7), {0, 0, 0, 7},
		framed(t, 0x7F, 0xFF, 0xFF, 0xFF), framed(t, 0x80, 0, 0, 0), framed(t, 255, 255, 255, 255),
	}
	for i := range good {
		b := slices.Clone(good)
		b[i] ^= 1
		wrong = append(wrong, b)
	}
	for _, b := range wrong {
		s := disk(t, room)
		has(t, s, "boot", b)
		has(t, s, "boot.new", []byte("x"))
		if got, e := Boot(s); got != 0 || e != api.ErrLog {
			t.Errorf("% x: %d %d", b, got, e)
		}
		if l := s.List(); len(l) != 2 || !bytes.Equal(l[0].Bytes, b) || string(l[1].Bytes) != "x" {
			t.Errorf("% x: changed %v", b, l)
		}
		if a, e := Open(usual(), s); a != nil || e != api.ErrLog {
			t.Errorf("% x: Open %d", b, e)
		}
	}
}

// What was left of a boot that a crash cut short is in nobody's way.
func TestBootDraft(t *testing.T) {
	for _, sure := range []bool{false, true} {
		s := disk(t, 100)
		has(t, s, "boot", framed(t, 0, 0, 0, 7))
		wants(t, "Append", s.Append("boot.new", make([]byte, 88)), api.OK)
		if sure {
			wants(t, "Sync", s.Sync("boot.new"), api.OK)
		}
		if got, e := Boot(s); got != 8 || e != api.OK {
			t.Error(got, e)
		}
		mustBe(t, "boot", s, 0, 0, 0, 8)
	}
}

func TestBootRefused(t *testing.T) {
	s := disk(t, 23)
	if got, e := Boot(s); got != 1 || e != api.OK {
		t.Fatal(got, e)
	}
	// There is no room for two of them.
	if got, e := Boot(s); got != 0 || e != api.ErrFull {
		t.Error("no room", got, e)
	}
	mustBe(t, "no room", s, 0, 0, 0, 1)
	if a, e := Open(usual(), s); a != nil || e != api.ErrFull {
		t.Error("no room", e)
	}
	s = disk(t, room)
	for i := range api.MaxFiles {
		has(t, s, "f"+strconv.Itoa(i), []byte("x"))
	}
	if got, e := Boot(s); got != 0 || e != api.ErrFull {
		t.Error("no file", got, e)
	}
	s = disk(t, room)
	s.Stop(0)
	if got, e := Boot(s); got != 0 || e != api.ErrOff {
		t.Error("off", got, e)
	}
	wants(t, "Crash", s.Crash(nil), api.OK)
	has(t, s, "boot", []byte("x"))
	s.Stop(0)
	if got, e := Boot(s); got != 0 || e != api.ErrOff {
		t.Error("off, and none", got, e)
	}
}

// Whenever the power goes, no boot is told twice.
func TestBootPower(t *testing.T) {
	for stop := range 5 {
		for kept := range 13 {
			for _, draft := range []bool{false, true} {
				s := disk(t, room)
				has(t, s, "boot", framed(t, 0, 0, 1, 4))
				if draft {
					has(t, s, "boot.new", []byte("x"))
				}
				s.Stop(stop)
				got, e := Boot(s)
				steps := 2
				if draft {
					steps = 3
				}
				want := api.OK
				if stop < steps {
					want = api.ErrOff
				}
				wants(t, "Boot", e, want)
				var l []api.Kept
				for _, f := range s.List() {
					l = append(l, api.Kept{Name: f.Name, Bytes: min(kept, len(f.Bytes)-f.Sure)})
				}
				wants(t, "Crash", s.Crash(l), api.OK)
				next, e := Boot(s)
				if e != api.OK || want == api.OK && (got != 261 || next != 262) || want != api.OK && (got != 0 || next != 261) {
					t.Error(stop, kept, draft, got, next, e)
				}
			}
		}
	}
}
