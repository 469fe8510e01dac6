package wal

import (
	"math"
	"strings"
	"testing"

	"reveille/api"
	"reveille/store"
)

// P9.1

func mustRefuse(t *testing.T, s *store.Store, name string, size int, want api.Errno) {
	t.Helper()
	l, found, e := Open(s, name, size)
	if l != nil || e != want {
		t.Errorf("%q, %d: %d, not %d", name, size, e, want)
	}
	finds(t, name, found, "", 0)
}

func TestOpenOfWhatMayNotBe(t *testing.T) {
	s := made(t, 1000, files{"log.tmp": "draft"})
	for _, off := range []bool{false, true} {
		for _, name := range []string{"", strings.Repeat("x", 13), strings.Repeat("x", 20), strings.Repeat("x", 1000), "A", "logZ", "l_g", "l/g", "l g", "\x00", "log\x00", "\u00E9", "log\n", "`", "{", ",", "/", ":"} {
			mustRefuse(t, s, name, 100, api.ErrArg)
			mustRefuse(t, nil, name, 100, api.ErrArg)
		}
		for _, size := range []int{0, -1, math.MinInt, 1<<26 + 1, math.MaxInt} {
			mustRefuse(t, s, "log", size, api.ErrArg)
		}
		mustRefuse(t, nil, "log", 100, api.ErrArg)
		has(t, "refused", s, files{"log.tmp": "draft"})
		s.Stop(0)
		if !off {
			mustRefuse(t, s, "log", 100, api.ErrOff)
		}
	}
	mustRefuse(t, &store.Store{}, "log", 100, api.ErrClosed)
}

func TestOpenOfNames(t *testing.T) {
	for _, name := range []string{"a", "z", "0", "9", ".", "-", "journal", "ledger", "a.0000000000", "log.snap", strings.Repeat("x", 12)} {
		for _, size := range []int{1, 1 << 26} {
			s := made(t, 1000, nil)
			l, _, e := Open(s, name, size)
			wants(t, name, e, api.OK)
			appends(t, l, "a")
			wants(t, name, l.Snapshot([]byte("s")), api.OK)
			appends(t, l, "b")
			has(t, name, s, files{name + ".snap": one(1, "s"), name + ".0000000001": records(1, "b")})
			_, found, e := Open(s, name, size)
			wants(t, name, e, api.OK)
			finds(t, name, found, "s", 1, "b")
		}
	}
}

func TestSnapshotsThatAreNone(t *testing.T) {
	good := one(1, "state")
	for name, text := range map[string]string{
		"nothing":                "",
		"zeros":                  strings.Repeat("\x00", 100),
		"a beginning":            good[:len(good)-1],
		"a head":                 good[:8],
		"a byte behind it":       good + "\x00",
		"a frame behind it":      good + one(1, ""),
		"a part behind it":       good + good[:9],
		"a byte ahead of it":     "\x00" + good,
		"another state":          good[:20] + "x",
		"another number":         good[:15] + "\x02" + good[16:],
		"no number":              framed(""),
		"seven bytes":            framed("\x00\x00\x00\x00\x00\x00\x01"),
		"2^62":                   one(1<<62, "s"),
		"2^62 + 1":               one(1<<62+1, "s"),
		"2^63":                   one(1<<63, "s"),
		"2^64 - 1":               one(math.MaxUint64, "s"),
		"a payload too long":     framed(strings.Repeat("\x00", 65537)),
		"a number's lowest byte": framed("\xFF\x00\x00\x00\x00\x00\x00\x00"),
	} {
		all := files{"log.snap": text, "log.tmp": "draft", "log.0000000000": "torn", "log.0000000009": records(9, "a")}
		s := made(t, 1<<20, all)
		mustRefuse(t, s, "log", 100, api.ErrLog)
		has(t, name, s, all)
	}
}

func TestSnapshotsThatAreOne(t *testing.T) {
	for number, state := range map[int]string{0: "", 1: "s", 255: "\x00\x00", 1 << 32: "xyz", 1<<62 - 1: strings.Repeat("x", most)} {
		s := made(t, 1<<20, files{"log.snap": one(uint64(number), state)})
		l, found := opened(t, s, 100)
		finds(t, "snapshot", found, state, number)
		is(t, "snapshot", l, number, number)
		has(t, "snapshot", s, files{"log.snap": one(uint64(number), state)})
	}
}

// found is what is found of a store, and what is left of it (where no files are named: all).
type found struct {
	name    string
	all     files
	state   string
	index   int
	records []string
	left    files
}

// with is some files, and one more.
func (f files) with(name, text string) files {
	more := files{name: text}
	for other, has := range f {
		if other != name {
			more[other] = has
		}
	}
	return more
}

func seen(t *testing.T, list []found) {
	t.Helper()
	for _, c := range list {
		left := c.left
		if left == nil {
			left = c.all
		}
		for _, all := range []files{c.all, c.all.with("log.tmp", "draft"), c.all.with("log.tmp", "")} {
			s := made(t, 1<<20, all)
			l, found := opened(t, s, 1<<26)
			finds(t, c.name, found, c.state, c.index, c.records...)
			is(t, c.name, l, c.index+len(c.records), c.index)
			has(t, c.name, s, left)
			// What is left is found again, and nothing is done to it; and it goes on.
			n := calls(s, func() { l, found = opened(t, s, 1<<26) })
			finds(t, c.name+" again", found, c.state, c.index, c.records...)
			if n != 0 {
				t.Errorf("%s again: %d calls", c.name, n)
			}
			appends(t, l, "next")
			_, found = opened(t, s, 1<<26)
			finds(t, c.name+" and one", found, c.state, c.index, append(c.records[:len(c.records):len(c.records)], "next")...)
		}
	}
}

func TestWhatIsFound(t *testing.T) {
	abc := records(0, "a", "b", "c")
	seen(t, []found{
		{name: "nothing", all: files{}},
		{name: "one segment", all: files{"log.0000000000": abc}, records: []string{"a", "b", "c"}},
		{name: "two segments", all: files{"log.0000000000": abc, "log.0000000003": records(3, "d", "e")}, records: []string{"a", "b", "c", "d", "e"}},
		{name: "a segment without a record, last", all: files{"log.0000000000": abc, "log.0000000003": ""}, records: []string{"a", "b", "c"}},
		{name: "a segment without a record, alone", all: files{"log.0000000000": ""}},
		{name: "empty records", all: files{"log.0000000000": records(0, "", "", "x", "")}, records: []string{"", "", "x", ""}},
		{name: "ten segments and more", all: files{
			"log.0000000000": records(0, strings.Fields("a b c d e f g h i")...),
			"log.0000000009": records(9, "j"),
			"log.0000000010": records(10, "k"),
		}, records: strings.Fields("a b c d e f g h i j k")},
		{name: "others' files", all: files{
			"log.0000000000": abc, "log": "x", "log.": "x", "log.000000003": "x", "log.00000000003": "x", "log.000000000a": "x",
			"log.-000000003": "x", "log.0000000.03": "x", "log-0000000003": "x", "log.log.0000000003": "x", "lo.0000000003": "x", "logs.0000000003": "x", "og.0000000003": "x", "log.snaps": "x", "log.tmp.tmp": "x", "lo.snap": "x",
		}, records: []string{"a", "b", "c"}},
	})
}

func TestWhatIsFoundBehindASnapshot(t *testing.T) {
	snap := one(3, "s")
	abc, de := records(0, "a", "b", "c"), records(3, "d", "e")
	seen(t, []found{
		{name: "no segment", all: files{"log.snap": snap}, state: "s", index: 3},
		{name: "a segment behind it", all: files{"log.snap": snap, "log.0000000003": de}, state: "s", index: 3, records: []string{"d", "e"}},
		{name: "a segment without a record behind it", all: files{"log.snap": snap, "log.0000000003": ""}, state: "s", index: 3},
		{name: "a segment ahead of it", all: files{"log.snap": snap, "log.0000000000": abc}, state: "s", index: 3},
		{name: "segments ahead of it, without the first one", all: files{"log.snap": snap, "log.0000000001": records(1, "b"), "log.0000000002": records(2, "c")}, state: "s", index: 3},
		{name: "both", all: files{"log.snap": snap, "log.0000000000": abc, "log.0000000003": de}, state: "s", index: 3, records: []string{"d", "e"}},
		{name: "one that goes beyond it", all: files{"log.snap": snap, "log.0000000002": records(2, "c", "d", "e")}, state: "s", index: 3, records: []string{"d", "e"}},
		{name: "one that ends ahead of it", all: files{"log.snap": snap, "log.0000000000": records(0, "a", "b")}, state: "s", index: 3, left: files{"log.snap": snap}},
		{name: "some that end ahead of it", all: files{"log.snap": snap, "log.0000000000": records(0, "a"), "log.0000000001": records(1, "b")}, state: "s", index: 3, left: files{"log.snap": snap}},
		{name: "one ahead of it, without a record", all: files{"log.snap": snap, "log.0000000002": ""}, state: "s", index: 3, left: files{"log.snap": snap}},
		{name: "one that begins behind it", all: files{"log.snap": snap, "log.0000000004": records(4, "e")}, state: "s", index: 3, left: files{"log.snap": snap}},
		{name: "one behind it, without a record", all: files{"log.snap": snap, "log.0000000004": ""}, state: "s", index: 3, left: files{"log.snap": snap}},
		{name: "one just ahead of it, torn", all: files{"log.snap": snap, "log.0000000000": records(0, "a", "b") + "x"}, state: "s", index: 3, left: files{"log.snap": snap}},
		{name: "one up to it, torn", all: files{"log.snap": snap, "log.0000000000": abc + "x"}, state: "s", index: 3, left: files{"log.snap": snap, "log.0000000000": abc}},
		{name: "one from it on, torn", all: files{"log.snap": snap, "log.0000000003": "x"}, state: "s", index: 3, left: files{"log.snap": snap}},
		{name: "a gap ahead of it", all: files{"log.snap": snap, "log.0000000000": records(0, "a"), "log.0000000003": de}, state: "s", index: 3, left: files{"log.snap": snap}},
	})
	// Without a snapshot it is 0.
	seen(t, []found{
		{name: "no first record", all: files{"log.0000000001": records(1, "b")}, left: files{}},
		{name: "no first records", all: files{"log.0000000003": de, "log.0000000005": records(5, "f")}, left: files{}},
	})
}

func TestWhereAllEnds(t *testing.T) {
	a, b, c := records(0, "a"), records(1, "b"), records(2, "c")
	spoiled := records(1, "b", "x", "y")
	spoiled = spoiled[:17+4] + "?" + spoiled[17+5:]
	seen(t, []found{
		{name: "torn", all: files{"log.0000000000": records(0, "a", "b", "c")[:50]}, records: []string{"a", "b"}, left: files{"log.0000000000": records(0, "a", "b")}},
		{name: "torn within the first one", all: files{"log.0000000000": a[:16]}, left: files{}},
		{name: "one byte more", all: files{"log.0000000000": a + "\x00"}, records: []string{"a"}, left: files{"log.0000000000": a}},
		{name: "a segment behind a torn one", all: files{"log.0000000000": a + "?", "log.0000000001": b, "log.0000000002": c}, records: []string{"a"}, left: files{"log.0000000000": a}},
		{name: "all within the second one", all: files{"log.0000000000": a, "log.0000000001": "?", "log.0000000002": c}, records: []string{"a"}, left: files{"log.0000000000": a}},
		{name: "damage within the second one", all: files{"log.0000000000": a, "log.0000000001": spoiled, "log.0000000004": records(4, "z")}, records: []string{"a", "b"}, left: files{"log.0000000000": a, "log.0000000001": b}},
		{name: "a record of another number", all: files{"log.0000000000": a + records(2, "c") + records(1, "b")}, records: []string{"a"}, left: files{"log.0000000000": a}},
		{name: "a record twice", all: files{"log.0000000000": a + a + b}, records: []string{"a"}, left: files{"log.0000000000": a}},
		{name: "a record of 2^32 more", all: files{"log.0000000000": a + records(1<<32+1, "b")}, records: []string{"a"}, left: files{"log.0000000000": a}},
		{name: "a record of 2^63 more", all: files{"log.0000000000": a + records(1<<63+1, "b")}, records: []string{"a"}, left: files{"log.0000000000": a}},
		{name: "a frame without a number", all: files{"log.0000000000": a + framed("\x00\x00\x00\x00\x00\x00\x01") + b}, records: []string{"a"}, left: files{"log.0000000000": a}},
		{name: "an empty frame", all: files{"log.0000000000": a + framed("") + b}, records: []string{"a"}, left: files{"log.0000000000": a}},
		{name: "a frame that is too long", all: files{"log.0000000000": a + one(1, strings.Repeat("x", most+1)) + b}, records: []string{"a"}, left: files{"log.0000000000": a}},
		{name: "a segment of a number too many", all: files{"log.0000000000": a, "log.0000000002": c, "log.0000000003": records(3, "d")}, records: []string{"a"}, left: files{"log.0000000000": a}},
		{name: "a segment of one that was seen", all: files{"log.0000000000": records(0, "a", "b"), "log.0000000001": b, "log.0000000002": c}, records: []string{"a", "b"}, left: files{"log.0000000000": records(0, "a", "b")}},
		{name: "a segment without a record, and one behind", all: files{"log.0000000000": a, "log.0000000001": "", "log.0000000002": c}, records: []string{"a"}, left: files{"log.0000000000": a, "log.0000000001": ""}},
		{name: "a segment that begins with another number", all: files{"log.0000000000": a, "log.0000000001": c}, records: []string{"a"}, left: files{"log.0000000000": a}},
	})
}

// Of more than ten digits a segment's name says the last ten, which are another number.
func TestSegmentsOfManyDigits(t *testing.T) {
	const many = 10000000000
	s := made(t, 1000, files{"log.snap": one(many, "s"), "log.0000000000": records(many, "a")})
	l, found := opened(t, s, 100)
	finds(t, "many", found, "s", many)
	is(t, "many", l, many, many)
	has(t, "many", s, files{"log.snap": one(many, "s")})
}

// What Open does to the store, wherever the power goes: a beginning of the steps.
func TestStepsOfOpen(t *testing.T) {
	a, b, c := records(0, "a"), records(1, "b"), records(2, "c")
	mustStep(t, "torn", files{"log.tmp": "draft", "log.0000000000": a + b + "x", "log.0000000002": c, "log.0000000005": "y"}, []files{
		{"log.0000000000": a + b + "x", "log.0000000002": c, "log.0000000005": "y"},
		{"log.0000000000": a + b, "log.0000000002": c, "log.0000000005": "y"},
		{"log.0000000000": a + b, "log.0000000005": "y"},
		{"log.0000000000": a + b},
	})
	mustStep(t, "a segment that is removed", files{"log.tmp": "", "log.0000000000": a, "log.0000000001": "x", "log.0000000002": c}, []files{
		{"log.0000000000": a, "log.0000000001": "x", "log.0000000002": c},
		{"log.0000000000": a, "log.0000000002": c},
		{"log.0000000000": a},
	})
	snap := one(9, "s")
	mustStep(t, "no record counts", files{"log.snap": snap, "log.tmp": "", "log.0000000000": a + "x", "log.0000000001": b}, []files{
		{"log.snap": snap, "log.0000000000": a + "x", "log.0000000001": b},
		{"log.snap": snap, "log.0000000001": b},
		{"log.snap": snap},
	})
}

func mustStep(t *testing.T, name string, all files, steps []files) {
	t.Helper()
	for n := range steps {
		s := made(t, 1000, all)
		s.Stop(n)
		mustRefuse(t, s, "log", 100, api.ErrOff)
		if n == 0 {
			has(t, name, s, all)
		} else {
			has(t, name, s, steps[n-1])
		}
	}
	s := made(t, 1000, all)
	s.Stop(len(steps))
	opened(t, s, 100)
	has(t, name, s, steps[len(steps)-1])
	if !s.Off() {
		t.Error(name, "fewer steps")
	}
}

// Records go on to the last segment that is left, till it is full.
func TestWhereItGoesOn(t *testing.T) {
	a, b, c := records(0, "a"), records(1, "b"), records(2, "c")
	for name, c := range map[string]struct {
		all  files
		size int
		want files
	}{
		"a segment that is not full":  {files{"log.0000000000": a + b}, 35, files{"log.0000000000": a + b + c}},
		"a segment that is full":      {files{"log.0000000000": a + b}, 34, files{"log.0000000000": a + b, "log.0000000002": c}},
		"one that was cut":            {files{"log.0000000000": a + b + "xyz"}, 35, files{"log.0000000000": a + b + c}},
		"one that was cut, full":      {files{"log.0000000000": a + b + "xyz"}, 34, files{"log.0000000000": a + b, "log.0000000002": c}},
		"one ahead of a removed one":  {files{"log.0000000000": a + b, "log.0000000002": "xyz"}, 35, files{"log.0000000000": a + b + c}},
		"one without a record":        {files{"log.0000000000": a + b, "log.0000000002": ""}, 1, files{"log.0000000000": a + b, "log.0000000002": c}},
		"one ahead of the snapshot":   {files{"log.snap": one(2, ""), "log.0000000000": a + b}, 35, files{"log.snap": one(2, ""), "log.0000000000": a + b + c}},
		"none behind the snapshot":    {files{"log.snap": one(2, "")}, 35, files{"log.snap": one(2, ""), "log.0000000002": c}},
		"none that counts":            {files{"log.snap": one(2, ""), "log.0000000000": a}, 35, files{"log.snap": one(2, ""), "log.0000000002": c}},
		"none that counts, behind it": {files{"log.snap": one(2, ""), "log.0000000007": a}, 35, files{"log.snap": one(2, ""), "log.0000000002": c}},
	} {
		s := made(t, 1000, c.all)
		l, _ := opened(t, s, c.size)
		appends(t, l, "c")
		has(t, name, s, c.want)
		is(t, name, l, 3, l.Base())
	}
}

// The chapter's example.

func TestExample(t *testing.T) {
	s := made(t, 1000, nil)
	l, _ := opened(t, s, 1000)
	appends(t, l, "a")
	wants(t, "Sync", l.Sync(), api.OK)
	appends(t, l, "b")
	wants(t, "Crash", s.Crash(nil), api.OK)
	l, found := opened(t, s, 1000)
	finds(t, "a crash", found, "", 0, "a")
	is(t, "a crash", l, 1, 0)
}
