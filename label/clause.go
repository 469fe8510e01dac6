package label

import (
	"slices"
	"strings"

	"reveille/api"
)

// The kinds of clauses.
const (
	among = 1 + iota
	notAmong
	there
	notThere
)

// host is the labels that clauses are asked of.
type host []api.Label

func (h host) isAmong(c api.Clause) bool {
	value, ok := Get(h, c.Key)
	return ok && slices.Contains(c.Values, value)
}

func (h host) isNotAmong(c api.Clause) bool { return !h.isAmong(c) }

func (h host) isThere(c api.Clause) bool {
	_, ok := Get(h, c.Key)
	return ok
}

func (h host) isNotThere(c api.Clause) bool { return !h.isThere(c) }

// refuses: do the labels not match the clause?
func (h host) refuses(c api.Clause) bool {
	m, ok := mannerOf(c.Kind)
	return !ok || !m.asks(h, c)
}

// manner is what a kind of clauses asks of a host, and how its clauses are written.
type manner struct {
	asks   func(h host, c api.Clause) bool
	ahead  string // of the key
	sign   string // between the key and one value
	many   string // between the key and a list of values
	valued bool
}

func mannerOf(kind int) (manner, bool) {
	switch kind {
	case among:
		return manner{asks: host.isAmong, sign: "=", many: " in ", valued: true}, true
	case notAmong:
		return manner{asks: host.isNotAmong, sign: "!=", many: " notin ", valued: true}, true
	case there:
		return manner{asks: host.isThere}, true
	case notThere:
		return manner{asks: host.isNotThere, ahead: "!"}, true
	}
	return manner{}, false
}

// takes: may a clause of this kind have as many values?
func (m manner) takes(values int) bool {
	if m.valued {
		return values >= 1 && values <= api.MaxValues
	}
	return values == 0
}

func (m manner) write(c api.Clause) string {
	if !m.valued {
		return m.ahead + c.Key
	}
	if len(c.Values) == 1 {
		return c.Key + m.sign + c.Values[0]
	}
	return c.Key + m.many + "(" + strings.Join(c.Values, ",") + ")"
}

// Matches: do the labels match all clauses?
func Matches(c []api.Clause, l []api.Label) bool {
	return !slices.ContainsFunc(c, host(l).refuses)
}

// Print is the text that is parsed to the clauses; nothing, if one may not be, or there are too many.
func Print(c []api.Clause) string {
	if len(c) > api.MaxClauses {
		return ""
	}
	texts := make([]string, len(c))
	for i, one := range c {
		m, ok := mannerOf(one.Kind)
		if !ok || !m.takes(len(one.Values)) || !sound(one) {
			return ""
		}
		texts[i] = m.write(one)
	}
	return strings.Join(texts, ",")
}

// sound: is the key a word, and is each value one, or empty?
func sound(c api.Clause) bool {
	for _, value := range c.Values {
		if !mayValue(value) {
			return false
		}
	}
	return Word(c.Key)
}
