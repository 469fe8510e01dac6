package store

import (
	"math"
	"testing"

	"reveille/api"
)

// P7.2

func TestStop(t *testing.T) {
	s := with(t, "a=xy|z")
	s.Stop(5)
	for i, do := range []func() api.Errno{
		func() api.Errno { return s.Append("b", nil) },
		func() api.Errno { return s.Sync("b") },
		func() api.Errno { return s.Cut("a", 2) },
		func() api.Errno { return s.Rename("b", "c") },
		func() api.Errno { return s.Remove("c") },
	} {
		if s.Off() {
			t.Error("off ahead of", i)
		}
		wants(t, "call", do(), api.OK)
	}
	if !s.Off() {
		t.Error("on")
	}
	for call, do := range calls() {
		wants(t, call, do(s, "a"), api.ErrOff)
	}
	tells(t, s, "a=xy|")
	if s.Room() != 998 {
		t.Error(s.Room())
	}
}

func TestStopAtOnce(t *testing.T) {
	s := with(t, "a=xy|z")
	s.Stop(0)
	if !s.Off() {
		t.Error("on")
	}
	wants(t, "Append", s.Append("a", nil), api.ErrOff)
	tells(t, s, "a=xy|z")
}

func TestWhatStopDoesNotCount(t *testing.T) {
	s := with(t, "a=xy|z")
	s.Stop(1)
	wants(t, "Append of too much", s.Append("a", make([]byte, 2000)), api.ErrFull)
	for call, do := range calls() {
		if call == "Read" {
			wants(t, call, do(s, "a"), api.OK)
		}
		wants(t, call, do(s, ""), api.ErrArg)
	}
	for _, e := range []api.Errno{s.Sync("b"), s.Cut("b", 0), s.Rename("b", "a"), s.Remove("b")} {
		wants(t, "of none", e, api.ErrNone)
	}
	wants(t, "Damage", s.Damage("a", 0, 'q'), api.OK)
	wants(t, "Crash that may not be", s.Crash([]api.Kept{{Name: "b"}}), api.ErrArg)
	s.List()
	s.Room()
	s.Fork()
	if s.Off() {
		t.Error("off")
	}
	wants(t, "what it counts", s.Append("a", nil), api.OK)
	if !s.Off() {
		t.Error("on")
	}
}

func TestStopAnew(t *testing.T) {
	for _, never := range []int{-1, -2, math.MinInt} {
		s := with(t, "a=xy|z")
		s.Stop(1)
		s.Stop(never)
		for range 100 {
			wants(t, "Sync", s.Sync("a"), api.OK)
		}
		if s.Off() {
			t.Error(never)
		}
		s.Stop(100)
		s.Stop(2)
		wants(t, "first", s.Sync("a"), api.OK)
		s.Stop(2)
		wants(t, "first anew", s.Sync("a"), api.OK)
		wants(t, "second", s.Sync("a"), api.OK)
		wants(t, "third", s.Sync("a"), api.ErrOff)
		// Of one that is off nothing changes.
		for _, n := range []int{never, 0, 1, math.MaxInt} {
			s.Stop(n)
			if !s.Off() {
				t.Error("on by", n)
			}
		}
		wants(t, "still", s.Sync("a"), api.ErrOff)
	}
	s := with(t, "a=xy|z")
	s.Stop(math.MaxInt)
	wants(t, "Sync", s.Sync("a"), api.OK)
	if s.Off() {
		t.Error("off")
	}
}

func TestCrashEndsStop(t *testing.T) {
	s := with(t, "a=xy|z")
	s.Stop(1)
	wants(t, "Crash", s.Crash(nil), api.OK)
	for range 10 {
		wants(t, "Sync", s.Sync("a"), api.OK)
	}
	s.Stop(0)
	wants(t, "Crash that may not be", s.Crash([]api.Kept{{Name: "a", Bytes: 1}}), api.ErrArg)
	if !s.Off() {
		t.Error("on by a crash that was refused")
	}
	wants(t, "Crash", s.Crash(nil), api.OK)
	if s.Off() {
		t.Error("off")
	}
	for range 10 {
		wants(t, "Sync", s.Sync("a"), api.OK)
	}
	s.Stop(1)
	wants(t, "first", s.Sync("a"), api.OK)
	wants(t, "second", s.Sync("a"), api.ErrOff)
}

// P7.3

func TestCrash(t *testing.T) {
	for name, c := range map[string]struct {
		kept []api.Kept
		want string
	}{
		"none named": {nil, "a=xyz| c="},
		"a part":     {[]api.Kept{{Name: "a", Bytes: 1}}, "a=xyzu| c="},
		"all":        {[]api.Kept{{Name: "b", Bytes: 2}, {Name: "a", Bytes: 2}, {Name: "d", Bytes: 0}}, "a=xyzuv| b=mn| c="},
		"no bytes":   {[]api.Kept{{Name: "a", Bytes: 0}, {Name: "b", Bytes: 0}, {Name: "c", Bytes: 0}}, "a=xyz| c="},
		"new ones":   {[]api.Kept{{Name: "b", Bytes: 1}}, "a=xyz| b=m| c="},
	} {
		s := made(t, 1000)
		wants(t, name, s.Append("a", []byte("xyz")), api.OK)
		wants(t, name, s.Sync("a"), api.OK)
		wants(t, name, s.Append("a", []byte("uv")), api.OK)
		wants(t, name, s.Append("b", []byte("mn")), api.OK)
		wants(t, name, s.Append("c", nil), api.OK)
		wants(t, name, s.Sync("c"), api.OK)
		wants(t, name, s.Append("d", nil), api.OK)
		s.Stop(0)
		wants(t, name, s.Crash(c.kept), api.OK)
		tells(t, s, c.want+"|")
		// What is left is sure.
		wants(t, name, s.Crash(nil), api.OK)
		tells(t, s, c.want+"|")
	}
}

func TestCrashesThatMayNotBe(t *testing.T) {
	for name, l := range map[string][]api.Kept{
		"twice":             {{Name: "a", Bytes: 1}, {Name: "a", Bytes: 1}},
		"twice none":        {{Name: "a"}, {Name: "b"}, {Name: "a"}},
		"none of the name":  {{Name: "c"}},
		"no name":           {{Name: ""}},
		"a name that isn't": {{Name: "A"}},
		"below 0":           {{Name: "a", Bytes: -1}},
		"far below 0":       {{Name: "a", Bytes: math.MinInt}},
		"too many":          {{Name: "a", Bytes: 3}},
		"far too many":      {{Name: "a", Bytes: math.MaxInt}},
		"too many of sure":  {{Name: "b", Bytes: 1}},
		"behind good ones":  {{Name: "b"}, {Name: "a", Bytes: 2}, {Name: "c", Bytes: 1}},
	} {
		s := with(t, "a=xy|zu", "b=v|")
		for range 2 {
			wants(t, name, s.Crash(l), api.ErrArg)
			tells(t, s, "a=xy|zu b=v|")
			s.Stop(0)
		}
		if !s.Off() {
			t.Error(name, "on")
		}
	}
}

func TestCrashLeavesItsList(t *testing.T) {
	s := with(t, "a=xy|zu", "b=v|w")
	l := []api.Kept{{Name: "b", Bytes: 1}, {Name: "a", Bytes: 2}, {Name: "z", Bytes: 9}}
	wants(t, "Crash", s.Crash(l[:2]), api.OK)
	if l[0].Name != "b" || l[1].Name != "a" || l[2].Name != "z" {
		t.Error(l)
	}
}

func TestWhatACrashLeavesWithoutAByte(t *testing.T) {
	for name, c := range map[string]struct {
		do   func(s *Store) api.Errno
		want string
	}{
		"never sure":            {func(s *Store) api.Errno { return api.OK }, ""},
		"by Sync":               {func(s *Store) api.Errno { return s.Sync("a") }, "a=xy|"},
		"by Cut":                {func(s *Store) api.Errno { return s.Cut("a", 1) }, "a=|"},
		"by Cut to nothing":     {func(s *Store) api.Errno { return s.Cut("a", 0) }, "a=|"},
		"by Cut of nothing":     {func(s *Store) api.Errno { return s.Cut("a", 9) }, "a=|"},
		"by Rename":             {func(s *Store) api.Errno { return s.Rename("a", "b") }, "b=xy|"},
		"by Rename to itself":   {func(s *Store) api.Errno { return s.Rename("a", "a") }, "a=xy|"},
		"by Damage":             {func(s *Store) api.Errno { return s.Damage("a", 0, 'q') }, ""},
		"by what was refused":   {func(s *Store) api.Errno { s.Stop(0); s.Sync("a"); return api.OK }, ""},
		"removed, and anew":     {func(s *Store) api.Errno { s.Sync("a"); s.Remove("a"); return s.Append("a", []byte("m")) }, ""},
		"renamed, and anew":     {func(s *Store) api.Errno { s.Rename("a", "b"); return s.Append("a", []byte("m")) }, "b=xy|"},
		"one that was replaced": {func(s *Store) api.Errno { s.Append("b", nil); return s.Rename("b", "a") }, "a=|"},
	} {
		s := made(t, 100)
		wants(t, name, s.Append("a", []byte("xy")), api.OK)
		wants(t, name, c.do(s), api.OK)
		wants(t, name, s.Crash(nil), api.OK)
		tells(t, s, c.want)
	}
}

func TestDamage(t *testing.T) {
	s := with(t, "a=xy|zu", "b=|")
	for _, off := range []bool{false, true} {
		for _, at := range []int{4, 5, math.MaxInt, -1, math.MinInt} {
			wants(t, "no such byte", s.Damage("a", at, 'q'), api.ErrArg)
		}
		wants(t, "no byte at all", s.Damage("b", 0, 'q'), api.ErrArg)
		wants(t, "none", s.Damage("c", 0, 'q'), api.ErrNone)
		wants(t, "none, far behind", s.Damage("c", math.MaxInt, 'q'), api.ErrNone)
		wants(t, "first", s.Damage("a", 0, 0xFF), api.OK)
		wants(t, "last", s.Damage("a", 3, 0), api.OK)
		wants(t, "as it was", s.Damage("a", 1, 'y'), api.OK)
		tells(t, s, "a=\xFFy|z\x00 b=|")
		if s.Off() != off {
			t.Error("the power", off)
		}
		s.Stop(0)
	}
	wants(t, "Crash", s.Crash([]api.Kept{{Name: "a", Bytes: 2}}), api.OK)
	tells(t, s, "a=\xFFyz\x00| b=|")
}

// The chapter's example.

func TestExample(t *testing.T) {
	s := made(t, 100)
	wants(t, "Append", s.Append("a", []byte("xyz")), api.OK)
	wants(t, "Sync", s.Sync("a"), api.OK)
	wants(t, "Append", s.Append("a", []byte("uv")), api.OK)
	wants(t, "Crash", s.Crash([]api.Kept{{Name: "a", Bytes: 1}}), api.OK)
	if b, e := s.Read("a"); e != api.OK || string(b) != "xyzu" {
		t.Errorf("%q %d", b, e)
	}
}
