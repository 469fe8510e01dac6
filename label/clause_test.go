package label

import (
	"math"
	"math/rand"
	"reflect"
	"strings"
	"testing"

	"reveille/api"
)

func parsed(t *testing.T, text string) []api.Clause {
	t.Helper()
	c, e, place := Parse(text)
	if e != api.OK {
		t.Fatal(text, e, place)
	}
	return c
}

func many(n int, s string) []string {
	l := make([]string, n)
	for i := range l {
		l[i] = s
	}
	return l
}

// P4.3

func TestPrint(t *testing.T) {
	for want, c := range map[string][]api.Clause{
		"":                               {},
		"k=v":                            {one(1, "k", "v")},
		"k!=v":                           {one(2, "k", "v")},
		"k=":                             {one(1, "k", "")},
		"k!=":                            {one(2, "k", "")},
		"k in (b,a)":                     {one(1, "k", "b", "a")},
		"k notin (b,,b)":                 {one(2, "k", "b", "", "b")},
		"k in (,)":                       {one(1, "k", "", "")},
		"k":                              {one(3, "k")},
		"!k":                             {one(4, "k")},
		"os=linux,zone in (a,b),!gpu,in": {one(1, "os", "linux"), one(1, "zone", "a", "b"), one(4, "gpu"), one(3, "in")},
		"k in (" + strings.Repeat("v,", 15) + "v)": {one(1, "k", many(16, "v")...)},
		strings.Repeat("k,", 15) + "k":             slicesOf(16, one(3, "k")),
	} {
		if got := Print(c); got != want {
			t.Errorf("%v: %q", c, got)
		}
	}
	if Print(nil) != "" {
		t.Error("none")
	}
}

func slicesOf(n int, c api.Clause) []api.Clause {
	l := make([]api.Clause, n)
	for i := range l {
		l[i] = c
	}
	return l
}

func TestPrintNothing(t *testing.T) {
	for _, c := range []api.Clause{
		{}, one(0, "k"), one(5, "k"), one(-1, "k"), one(math.MinInt, "k"), one(math.MaxInt, "k", "v"), one(0, "k", "v"), one(5, "k", "v"),
		one(1, "k"), one(2, "k"), one(1, "k", many(17, "v")...), one(2, "k", many(17, "v")...), one(3, "k", "v"), one(4, "k", "v"), one(3, "k", ""), one(4, "k", ""),
		one(1, "", "v"), one(2, "", "v"), one(3, ""), one(4, ""), one(3, "a b"), one(4, "!a"), one(3, long(33)), one(1, "k ", "v"),
		one(1, "k", "a b"), one(2, "k", "a,b"), one(1, "k", long(33)), one(1, "k", "a", "ä"), one(2, "k", "(", "a"), one(1, "k", " "),
	} {
		for _, l := range [][]api.Clause{{c}, {c, one(3, "k")}, {one(3, "k"), c}} {
			if got := Print(l); got != "" {
				t.Errorf("%v: %q", l, got)
			}
		}
	}
	if got := Print(slicesOf(17, one(3, "k"))); got != "" {
		t.Errorf("seventeen: %q", got)
	}
}

func TestMatches(t *testing.T) {
	host := []api.Label{{Key: "os", Value: "linux"}, {Key: "zone", Value: "b"}, {Key: "empty"}}
	for text, want := range map[string]bool{
		"":                               true,
		"os=linux, zone in (a, b), !gpu": true, "os=linux, zone in (a, c), !gpu": false, "os=linux, zone in (a, b), gpu": false, "os=bsd, zone in (a, b), !gpu": false,
		"os=linux": true, "os=bsd": false, "os=": false, "os=Linux": false, "gpu=": false, "gpu=x": false, "empty=": true, "empty=x": false,
		"os!=linux": false, "os!=bsd": true, "os!=": true, "gpu!=": true, "gpu!=x": true, "empty!=": false, "empty!=x": true,
		"os in (bsd,linux)": true, "os in (bsd,mac)": false, "gpu in (a,b)": false, "empty in (a,)": true,
		"os notin (bsd,linux)": false, "os notin (bsd,mac)": true, "gpu notin (a,b)": true, "empty notin (a,)": false,
		"os": true, "gpu": false, "empty": true, "!os": false, "!gpu": true, "!empty": false,
		"os,os=linux,os!=bsd": true, "os,!os": false,
	} {
		if got := Matches(parsed(t, text), host); got != want {
			t.Errorf("%q: %v", text, got)
		}
	}
	c := parsed(t, "os=linux, zone in (a, b), !gpu")
	if Matches(c, []api.Label{{Key: "os", Value: "linux"}, {Key: "zone", Value: "c"}}) || !Matches(c, []api.Label{{Key: "os", Value: "linux"}, {Key: "zone", Value: "b"}}) {
		t.Error("the document's example")
	}
	if !Matches(nil, nil) || !Matches(nil, host) || !Matches(parsed(t, "!k,k!=v"), nil) || Matches(parsed(t, "k"), nil) {
		t.Error("of none")
	}
}

func TestMatchesOdd(t *testing.T) {
	twice := []api.Label{{Key: "k", Value: "1"}, {Key: "k", Value: "2"}}
	for text, want := range map[string]bool{"k=1": true, "k=2": false, "k!=1": false, "k!=2": true, "k": true, "!k": false} {
		if got := Matches(parsed(t, text), twice); got != want {
			t.Errorf("a key twice: %q: %v", text, got)
		}
	}
	for _, kind := range []int{0, 5, -1, math.MinInt, math.MaxInt} {
		for _, l := range [][]api.Clause{{one(kind, "k", "1")}, {one(kind, "x")}, {one(3, "k"), one(kind, "k", "1")}} {
			if Matches(l, twice) {
				t.Error("a kind that is none", l)
			}
		}
	}
	if Matches([]api.Clause{one(1, "k")}, twice) || !Matches([]api.Clause{one(2, "k")}, twice) {
		t.Error("without values")
	}
}

// P4.4

func TestPrintedIsParsed(t *testing.T) {
	r := rand.New(rand.NewSource(3))
	for range 20000 {
		var l []api.Clause
		for range r.Intn(17) {
			l = append(l, randomClause(r))
		}
		kept := copied(l)
		text := Print(l)
		if !reflect.DeepEqual(l, kept) {
			t.Fatal("what was handed in was changed", l, kept)
		}
		got, e, place := Parse(text)
		if len(text) > api.MaxSelector {
			if e != api.ErrLong || got != nil || place != 0 {
				t.Fatalf("%q: %v %v %v", text, got, e, place)
			}
			continue
		}
		if e != api.OK || !same(got, l) || (text == "") != (len(l) == 0) {
			t.Fatalf("%q: %v %v, not %v", text, got, e, l)
		}
	}
}

func copied(l []api.Clause) []api.Clause {
	var out []api.Clause
	for _, c := range l {
		out = append(out, one(c.Kind, c.Key, append([]string(nil), c.Values...)...))
	}
	return out
}

// TestPrintLong: a text is printed whole, also where it is too long to be parsed.
func TestPrintLong(t *testing.T) {
	want := strings.Repeat(","+long(32)+" in ("+strings.Repeat(long(32)+",", 15)+long(32)+")", 16)[1:]
	if got := Print(slicesOf(16, one(1, long(32), many(16, long(32))...))); got != want {
		t.Errorf("%q", got)
	}
}

func TestOrderOfClauses(t *testing.T) {
	r := rand.New(rand.NewSource(4))
	for range 5000 {
		var l []api.Clause
		for range 1 + r.Intn(4) {
			l = append(l, randomClause(r))
		}
		var host []api.Label
		for range r.Intn(6) {
			host = append(host, api.Label{Key: randomWord(r), Value: randomWord(r)})
		}
		want := Matches(l, host)
		all := true
		for _, c := range l {
			all = all && Matches([]api.Clause{c}, host)
		}
		r.Shuffle(len(l), func(i, j int) { l[i], l[j] = l[j], l[i] })
		if Matches(l, host) != want || all != want {
			t.Fatal(l, host, want, all)
		}
	}
}
