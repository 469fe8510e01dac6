package label

import (
	"math/rand"
	"reflect"
	"regexp"
	"strings"
	"testing"

	"reveille/api"
)

func one(kind int, key string, values ...string) api.Clause {
	return api.Clause{Kind: kind, Key: key, Values: values}
}

// same: nil and the empty list are the same.
func same(a, b []api.Clause) bool {
	if len(a) != len(b) {
		return false
	}
	for i := range a {
		if a[i].Kind != b[i].Kind || a[i].Key != b[i].Key || strings.Join(a[i].Values, ",") != strings.Join(b[i].Values, ",") || len(a[i].Values) != len(b[i].Values) {
			return false
		}
	}
	return true
}

// P4.2

func TestParseForms(t *testing.T) {
	for text, want := range map[string][]api.Clause{
		"": nil, " ": nil, "     ": nil,
		"k=v": {one(1, "k", "v")}, "k==v": {one(1, "k", "v")}, "k!=v": {one(2, "k", "v")},
		"k=": {one(1, "k", "")}, "k==": {one(1, "k", "")}, "k!=": {one(2, "k", "")}, "k = ": {one(1, "k", "")},
		"k in (a)": {one(1, "k", "a")}, "k in (a,b,c)": {one(1, "k", "a", "b", "c")}, "k notin (b,a)": {one(2, "k", "b", "a")},
		"k in ()": {one(1, "k", "")}, "k in ( )": {one(1, "k", "")}, "k notin (,)": {one(2, "k", "", "")}, "k in (a,,a)": {one(1, "k", "a", "", "a")},
		"k in(a)": {one(1, "k", "a")}, "k notin(a,b)": {one(2, "k", "a", "b")},
		"k": {one(3, "k")}, "!k": {one(4, "k")}, "! k": {one(4, "k")}, "  !  k  ": {one(4, "k")}, " k ": {one(3, "k")},
		"  k  =  v  ": {one(1, "k", "v")}, "k ==v": {one(1, "k", "v")}, "k!= v": {one(2, "k", "v")},
		"  k   in  (  a  ,  b  )  ": {one(1, "k", "a", "b")}, "k  notin( a,b )": {one(2, "k", "a", "b")},
		"in": {one(3, "in")}, "notin": {one(3, "notin")}, "!in": {one(4, "in")}, "in=in": {one(1, "in", "in")}, "in in (in)": {one(1, "in", "in")}, "notin notin (notin)": {one(2, "notin", "notin")}, "in notin (in,notin)": {one(2, "in", "in", "notin")},
		"os=linux, zone in (a, b), !gpu": {one(1, "os", "linux"), one(1, "zone", "a", "b"), one(4, "gpu")},
		"a,b , !c,d=e":                   {one(3, "a"), one(3, "b"), one(4, "c"), one(1, "d", "e")},
		"a in (x,y),b notin (z),c":       {one(1, "a", "x", "y"), one(2, "b", "z"), one(3, "c")},
		"k,k":                            {one(3, "k"), one(3, "k")},
		"a=,b":                           {one(1, "a", ""), one(3, "b")},
		"A.b/c-d_9=Z":                    {one(1, "A.b/c-d_9", "Z")},
		long(32) + "=" + long(32):        {one(1, long(32), long(32))},
		"k in (a" + strings.Repeat(",b", 15) + ")": {one(1, "k", append([]string{"a"}, strings.Split(strings.Repeat("b,", 14)+"b", ",")...)...)},
	} {
		got, e, place := Parse(text)
		if e != api.OK || place != 0 || !same(got, want) {
			t.Errorf("%q: %v %v %v", text, got, e, place)
		}
		for _, c := range got {
			if c.Kind > 2 && c.Values != nil {
				t.Errorf("%q: values of %v", text, c)
			}
		}
	}
}

func TestParseFaults(t *testing.T) {
	sixteen := strings.Repeat("a,", 15) + "a"
	values := func(n int) string { return strings.Repeat("v,", n-1) + "v" }
	for text, want := range map[string]struct {
		e     api.Errno
		place int
	}{
		",": {api.ErrLabel, 0}, "a,": {api.ErrLabel, 1}, ",a": {api.ErrLabel, 0}, "a,,b": {api.ErrLabel, 1}, "a, ,b": {api.ErrLabel, 1},
		"!": {api.ErrLabel, 0}, "=": {api.ErrLabel, 0}, "=v": {api.ErrLabel, 0}, "!=v": {api.ErrLabel, 0}, "==v": {api.ErrLabel, 0}, "()": {api.ErrLabel, 0}, "in (a)": {api.ErrLabel, 0}, " in (a)": {api.ErrLabel, 0}, "notin (a)": {api.ErrLabel, 0},
		"!!k": {api.ErrLabel, 0}, "!k=v": {api.ErrLabel, 0}, "!k in (v)": {api.ErrLabel, 0}, "k!": {api.ErrLabel, 0}, "!k!": {api.ErrLabel, 0}, "!a b": {api.ErrLabel, 0},
		"k===v": {api.ErrLabel, 0}, "k= =v": {api.ErrLabel, 0}, "k! =v": {api.ErrLabel, 0}, "k!==v": {api.ErrLabel, 0}, "k=!v": {api.ErrLabel, 0}, "k=a=b": {api.ErrLabel, 0}, "k=a b": {api.ErrLabel, 0}, "k=(a)": {api.ErrLabel, 0}, "k=a)": {api.ErrLabel, 0}, "a b=c": {api.ErrLabel, 0},
		"a b": {api.ErrLabel, 0}, "k in": {api.ErrLabel, 0}, "k in a": {api.ErrLabel, 0}, "k in a)": {api.ErrLabel, 0}, "k in (a": {api.ErrLabel, 0}, "k in (": {api.ErrLabel, 0}, "k in )": {api.ErrLabel, 0}, "k in (a) b": {api.ErrLabel, 0}, "k in (a)(b)": {api.ErrLabel, 0}, "k in (a))": {api.ErrLabel, 0}, "k in ((a)": {api.ErrLabel, 0}, "k in ((a))": {api.ErrLabel, 0}, "k in (a b)": {api.ErrLabel, 0}, "k in (a=b)": {api.ErrLabel, 0}, "k in =a": {api.ErrLabel, 0}, "k in=a": {api.ErrLabel, 0},
		"k i n (a)": {api.ErrLabel, 0}, "k not in (a)": {api.ErrLabel, 0}, "kin (a)": {api.ErrLabel, 0}, "knotin(a)": {api.ErrLabel, 0}, "k(a)": {api.ErrLabel, 0}, "k (a)": {api.ErrLabel, 0}, "k inn (a)": {api.ErrLabel, 0}, "k IN (a)": {api.ErrLabel, 0}, "k in in (a)": {api.ErrLabel, 0}, "k in. (a)": {api.ErrLabel, 0}, "k notin": {api.ErrLabel, 0},
		"\tk": {api.ErrLabel, 0}, "k\t=v": {api.ErrLabel, 0}, "k\tin (a)": {api.ErrLabel, 0}, "k in (a,\nb)": {api.ErrLabel, 0}, "ä": {api.ErrLabel, 0}, "k=\x00": {api.ErrLabel, 0}, "\t": {api.ErrLabel, 0},
		long(33): {api.ErrLabel, 0}, "k=" + long(33): {api.ErrLabel, 0}, "!" + long(33): {api.ErrLabel, 0}, "k in (a," + long(33) + ")": {api.ErrLabel, 0}, "a," + long(33) + " in (a)": {api.ErrLabel, 1},
		// A bracket that is open to the end.
		"a,b in (c,d": {api.ErrLabel, 1}, "a,b in (c,d,e=f": {api.ErrLabel, 1}, "a(,b,c": {api.ErrLabel, 0}, "a,b,(": {api.ErrLabel, 2}, "a=(,": {api.ErrLabel, 0},
		"a),b": {api.ErrLabel, 0}, "a,b),c": {api.ErrLabel, 1}, "a),b in (c,d": {api.ErrLabel, 0}, "k in ((a),b),c": {api.ErrLabel, 0}, "a,b in ((c,d),e": {api.ErrLabel, 1}, "x=y,)(,z": {api.ErrLabel, 1},
		// The first one that is at fault tells.
		"a,?,#": {api.ErrLabel, 1}, "a,b,c d": {api.ErrLabel, 2},
		// The 17th, whatever it is.
		sixteen + ",a": {api.ErrLong, 16}, sixteen + ",": {api.ErrLong, 16}, sixteen + ",?": {api.ErrLong, 16}, sixteen + ",a in (b": {api.ErrLong, 16}, sixteen + ",a,a,?": {api.ErrLong, 16}, sixteen + ",k in (" + values(17) + ")": {api.ErrLong, 16},
		"?," + sixteen: {api.ErrLabel, 0}, strings.Repeat("a,", 15) + "?,a": {api.ErrLabel, 15},
		// Values.
		"k in (" + values(16) + ")": {api.OK, 0}, "k notin (" + values(16) + ")": {api.OK, 0}, "k in (" + values(17) + ")": {api.ErrLong, 0}, "k notin (" + values(17) + ")": {api.ErrLong, 0}, "a,b,k in (" + values(100) + "),?": {api.ErrLong, 2},
		"k in (" + strings.Repeat(",", 15) + ")": {api.OK, 0}, "k in (" + strings.Repeat(",", 16) + ")": {api.ErrLong, 0},
		"k in (" + values(17) + ",?)": {api.ErrLabel, 0}, "k in (" + values(17): {api.ErrLabel, 0}, "k on (" + values(17) + ")": {api.ErrLabel, 0}, "? in (" + values(17) + ")": {api.ErrLabel, 0}, "?,k in (" + values(17) + ")": {api.ErrLabel, 0}, "k in (" + values(17) + "),?": {api.ErrLong, 0},
		// Bytes.
		strings.Repeat(" ", 512): {api.OK, 0}, strings.Repeat(" ", 513): {api.ErrLong, 0}, "a" + strings.Repeat(" ", 511): {api.OK, 0}, "a" + strings.Repeat(" ", 512): {api.ErrLong, 0}, "a,b,?" + strings.Repeat(" ", 508): {api.ErrLong, 0}, strings.Repeat("?", 512): {api.ErrLabel, 0}, strings.Repeat("(", 100000): {api.ErrLong, 0},
	} {
		got, e, place := Parse(text)
		if e != want.e || place != want.place || (e != api.OK && got != nil) {
			t.Errorf("%q: %v %v %v", text, got, e, place)
		}
	}
	if got, e, _ := Parse(sixteen); e != api.OK || len(got) != 16 {
		t.Error("sixteen", got, e)
	}
}

// slowParse reads by patterns of the library, which share nothing with the program's reader.
type slowParser struct {
	equal, unequal, many, there, notThere *regexp.Regexp
}

func newSlowParser() slowParser {
	const word, value = `([-\w./]{1,32})`, `([-\w./]{0,32})`
	pattern := func(s string) *regexp.Regexp {
		return regexp.MustCompile(`^ *` + strings.ReplaceAll(strings.ReplaceAll(s, "K", word), "V", value) + ` *$`)
	}
	return slowParser{
		equal:    pattern(`K *==? *V`),
		unequal:  pattern(`K *!= *V`),
		many:     pattern(`K +(in|notin) *\(([^()]*)\)`),
		there:    pattern(`K`),
		notThere: pattern(`! *K`),
	}
}

func (p slowParser) clause(text string) (api.Clause, bool) {
	if m := p.equal.FindStringSubmatch(text); m != nil {
		return one(1, m[1], m[2]), true
	}
	if m := p.unequal.FindStringSubmatch(text); m != nil {
		return one(2, m[1], m[2]), true
	}
	if m := p.there.FindStringSubmatch(text); m != nil {
		return one(3, m[1]), true
	}
	if m := p.notThere.FindStringSubmatch(text); m != nil {
		return one(4, m[1]), true
	}
	m := p.many.FindStringSubmatch(text)
	if m == nil {
		return api.Clause{}, false
	}
	var values []string
	for _, v := range strings.Split(m[3], ",") {
		v = strings.Trim(v, " ")
		if v != "" && !p.there.MatchString(v) {
			return api.Clause{}, false
		}
		values = append(values, v)
	}
	return one(map[string]int{"in": 1, "notin": 2}[m[2]], m[1], values...), true
}

func (p slowParser) parse(text string) ([]api.Clause, api.Errno, int) {
	if len(text) > 512 {
		return nil, api.ErrLong, 0
	}
	if strings.Trim(text, " ") == "" {
		return nil, api.OK, 0
	}
	// Commas within brackets are put out of the way while the text is cut.
	b, open := []byte(text), false
	for i, c := range b {
		switch {
		case c == '(':
			open = true
		case c == ')':
			open = false
		case c == ',' && !open:
			b[i] = 0
		}
	}
	var l []api.Clause
	for i, part := range strings.Split(string(b), "\x00") {
		if i == 16 {
			return nil, api.ErrLong, i
		}
		c, ok := p.clause(part)
		if !ok {
			return nil, api.ErrLabel, i
		}
		if len(c.Values) > 16 {
			return nil, api.ErrLong, i
		}
		l = append(l, c)
	}
	return l, api.OK, 0
}

func TestParseAll(t *testing.T) {
	p := newSlowParser()
	r := rand.New(rand.NewSource(1))
	pieces := []string{"k", "in", "notin", " ", " ", "=", "==", "!=", "!", "(", ")", ",", ",", "a", "v", " in (", " notin (", ")", "?", "\t", long(31), "a,b"}
	good := 0
	for range 300000 {
		var b strings.Builder
		for range r.Intn(12) {
			b.WriteString(pieces[r.Intn(len(pieces))])
		}
		text := b.String()
		want, wantE, wantPlace := p.parse(text)
		got, e, place := Parse(text)
		if e != wantE || place != wantPlace || !same(got, want) {
			t.Fatalf("%q: %v %v %v, not %v %v %v", text, got, e, place, want, wantE, wantPlace)
		}
		if e == api.OK && len(got) > 0 {
			good++
		}
	}
	if good < 10000 {
		t.Error("too few that are good", good)
	}
}

func randomWord(r *rand.Rand) string {
	words := []string{"a", "b", "in", "notin", "os", "zone", "x.y/z", "A-1", "_", long(32)}
	return words[r.Intn(len(words))]
}

func randomClause(r *rand.Rand) api.Clause {
	c := one(1+r.Intn(4), randomWord(r))
	if c.Kind > 2 {
		return c
	}
	for range 1 + r.Intn(4)*r.Intn(4) {
		v := randomWord(r)
		if r.Intn(4) == 0 {
			v = ""
		}
		c.Values = append(c.Values, v)
	}
	return c
}

// spaced is a clause's text with blanks wherever they may stand.
func spaced(r *rand.Rand, c api.Clause) string {
	blanks := func() string { return strings.Repeat(" ", r.Intn(3)) }
	var parts []string
	switch {
	case c.Kind == 3:
		parts = []string{c.Key}
	case c.Kind == 4:
		parts = []string{"!", c.Key}
	case len(c.Values) == 1 && r.Intn(2) == 0:
		signs := [][]string{{"=", "=="}, {"!=", "!="}}
		parts = []string{c.Key, signs[c.Kind-1][r.Intn(2)], c.Values[0]}
	default:
		parts = []string{c.Key + " ", []string{"in", "notin"}[c.Kind-1], "("}
		for i, v := range c.Values {
			if i > 0 {
				parts = append(parts, ",")
			}
			parts = append(parts, v)
		}
		parts = append(parts, ")")
	}
	text := blanks()
	for _, part := range parts {
		text += part + blanks()
	}
	return text
}

// TestBlanks: whatever blanks there are, the clauses are the same.
func TestBlanks(t *testing.T) {
	r := rand.New(rand.NewSource(2))
	for range 20000 {
		var want []api.Clause
		var texts []string
		for range r.Intn(17) {
			c := randomClause(r)
			want = append(want, c)
			texts = append(texts, spaced(r, c))
		}
		text := strings.Join(texts, ",")
		got, e, place := Parse(text)
		if len(text) > 512 {
			if e != api.ErrLong || place != 0 || got != nil {
				t.Fatalf("%q: %v %v %v", text, got, e, place)
			}
			continue
		}
		if e != api.OK || place != 0 || !same(got, want) {
			t.Fatalf("%q: %v %v %v", text, got, e, place)
		}
	}
}

// TestParseIsNew: no list shares its room with another one.
func TestParseIsNew(t *testing.T) {
	const text = "a in (x,y),b notin (x,y),c=x"
	a, _, _ := Parse(text)
	b, _, _ := Parse(text)
	want := []api.Clause{one(1, "a", "x", "y"), one(2, "b", "x", "y"), one(1, "c", "x")}
	all := a[0].Values[:cap(a[0].Values)]
	for i := range all {
		all[i] = "changed"
	}
	if !reflect.DeepEqual(a[1:], want[1:]) || !reflect.DeepEqual(b, want) {
		t.Error(a, b)
	}
	for i := range a[:cap(a)] {
		a[:cap(a)][i] = api.Clause{}
	}
	if !reflect.DeepEqual(b, want) {
		t.Error(b)
	}
}
