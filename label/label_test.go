package label

import (
	"math/rand"
	"slices"
	"strconv"
	"strings"
	"testing"

	"reveille/api"
)

func long(n int) string { return strings.Repeat("x", n) }

// numbered is n labels by rising keys.
func numbered(n int) []api.Label {
	var l []api.Label
	for i := range n {
		l = append(l, api.Label{Key: "k" + strconv.Itoa(1000+i), Value: "v"})
	}
	return l
}

// P4.1

func TestWord(t *testing.T) {
	for s, want := range map[string]bool{
		"": false, "a": true, "z": true, "A": true, "Z": true, "0": true, "9": true, "-": true, "_": true, ".": true, "/": true,
		"os": true, "app.example/role-1_B": true, "in": true, "notin": true,
		long(32): true, long(33): false, long(5000): false,
		"a b": false, " a": false, "a ": false, "a,b": false, "a=b": false, "!a": false, "(a": false, "a\n": false, "a\x00": false, "ä": false, "\xff": false,
	} {
		if Word(s) != want {
			t.Errorf("%q", s)
		}
	}
	const all = "abcdefghijklmnopqrstuvwxyzABCDEFGHIJKLMNOPQRSTUVWXYZ0123456789-_./"
	for c := range 256 {
		one := string([]byte{byte(c)})
		if Word(one) != strings.Contains(all, one) || Word("a"+one+"b") != strings.Contains(all, one) {
			t.Errorf("%q", one)
		}
	}
}

func TestMay(t *testing.T) {
	for _, c := range []struct {
		l    []api.Label
		want bool
	}{
		{nil, true}, {[]api.Label{}, true},
		{[]api.Label{{Key: "a", Value: "b"}}, true}, {[]api.Label{{Key: "a"}}, true},
		{[]api.Label{{Key: "a"}, {Key: "b"}, {Key: "c"}}, true},
		{[]api.Label{{Key: "B"}, {Key: "a"}}, true}, {[]api.Label{{Key: "a"}, {Key: "B"}}, false},
		{[]api.Label{{Key: "a"}, {Key: "aa"}, {Key: "b"}}, true}, {[]api.Label{{Key: "aa"}, {Key: "a"}}, false},
		{[]api.Label{{Key: "a"}, {Key: "a"}}, false}, {[]api.Label{{Key: "a", Value: "x"}, {Key: "a", Value: "y"}}, false},
		{[]api.Label{{Key: "b"}, {Key: "a"}}, false}, {[]api.Label{{Key: "a"}, {Key: "c"}, {Key: "b"}}, false},
		{[]api.Label{{}}, false}, {[]api.Label{{Value: "v"}}, false}, {[]api.Label{{Key: "a b"}}, false}, {[]api.Label{{Key: "a", Value: "b c"}}, false},
		{[]api.Label{{Key: long(32), Value: long(32)}}, true}, {[]api.Label{{Key: long(33)}}, false}, {[]api.Label{{Key: "a", Value: long(33)}}, false},
		{numbered(16), true}, {numbered(17), false},
	} {
		if got := May(c.l); got != c.want {
			t.Error(c, got)
		}
	}
}

func TestSort(t *testing.T) {
	bad, twice := api.Label{Key: "a b"}, api.Label{Key: "k1000", Value: "w"}
	for _, c := range []struct {
		l []api.Label
		e api.Errno
	}{
		{[]api.Label{bad}, api.ErrLabel}, {[]api.Label{{}}, api.ErrLabel}, {[]api.Label{{Key: "a", Value: "ä"}}, api.ErrLabel}, {[]api.Label{{Key: "a"}, {Key: long(33)}}, api.ErrLabel},
		{[]api.Label{{Key: "a"}, {Key: "a"}, bad}, api.ErrLabel}, {append(numbered(17), bad), api.ErrLabel}, {append(numbered(17), twice, bad), api.ErrLabel},
		{[]api.Label{{Key: "a"}, {Key: "a"}}, api.ErrTwice}, {[]api.Label{{Key: "a", Value: "x"}, {Key: "b"}, {Key: "a", Value: "y"}}, api.ErrTwice}, {append(numbered(17), twice), api.ErrTwice}, {append(numbered(15), twice), api.ErrTwice},
		{numbered(17), api.ErrLong}, {numbered(1000), api.ErrLong},
	} {
		if got, e := Sort(c.l); e != c.e || got != nil {
			t.Error(c, got, e)
		}
	}
	r := rand.New(rand.NewSource(1))
	for n := range 17 {
		for range 20 {
			want := numbered(n)
			mixed := slices.Clone(want)
			r.Shuffle(n, func(i, j int) { mixed[i], mixed[j] = mixed[j], mixed[i] })
			given := slices.Clone(mixed)
			got, e := Sort(given)
			if e != api.OK || !slices.Equal(got, want) || !May(got) {
				t.Fatal(mixed, got, e)
			}
			if !slices.Equal(given, mixed) {
				t.Fatal("what was handed in was changed", mixed, given)
			}
			for i := range got {
				got[i].Key = "changed"
			}
			if !slices.Equal(given, mixed) {
				t.Fatal("the answer shares what was handed in")
			}
		}
	}
	got, e := Sort([]api.Label{{Key: "b"}, {Key: "a"}, {Key: "B"}, {Key: "a/"}, {Key: "-"}, {Key: "9"}, {Key: "_"}})
	if want := []api.Label{{Key: "-"}, {Key: "9"}, {Key: "B"}, {Key: "_"}, {Key: "a"}, {Key: "a/"}, {Key: "b"}}; e != api.OK || !slices.Equal(got, want) {
		t.Error("by bytes", got, e)
	}
}

// TestRoomBehind: what lies behind a list's end is left as it is.
func TestRoomBehind(t *testing.T) {
	room := []api.Label{{Key: "b"}, {Key: "a"}, {Key: "z", Value: "z"}}
	if _, e := Sort(room[:2]); e != api.OK || !slices.Equal(room, []api.Label{{Key: "b"}, {Key: "a"}, {Key: "z", Value: "z"}}) {
		t.Error(room, e)
	}
	May(room[:2])
	if !slices.Equal(room, []api.Label{{Key: "b"}, {Key: "a"}, {Key: "z", Value: "z"}}) {
		t.Error(room)
	}
}

func TestGet(t *testing.T) {
	l := []api.Label{{Key: "b", Value: "1"}, {Key: "a", Value: "2"}, {Key: "b", Value: "3"}, {Key: "c"}, {Key: "", Value: "4"}}
	for key, want := range map[string]string{"a": "2", "b": "1", "c": "", "": "4"} {
		if got, ok := Get(l, key); !ok || got != want {
			t.Error(key, got, ok)
		}
	}
	for _, key := range []string{"d", "A", "aa", "1"} {
		if got, ok := Get(l, key); ok || got != "" {
			t.Error(key, got, ok)
		}
	}
	if got, ok := Get(nil, ""); ok || got != "" {
		t.Error("of none", got, ok)
	}
}
