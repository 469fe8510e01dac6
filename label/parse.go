package label

import (
	"iter"
	"strings"

	"reveille/api"
)

// Parse is the clauses of a selector's text; or what is at fault, and in which clause.
func Parse(text string) ([]api.Clause, api.Errno, int) {
	if len(text) > api.MaxSelector {
		return nil, api.ErrLong, 0
	}
	if trim(text) == "" {
		return nil, api.OK, 0
	}
	var l []api.Clause
	for part := range parts(text) {
		place := len(l)
		if place == api.MaxClauses {
			return nil, api.ErrLong, place
		}
		c, ok := parseClause(trim(part))
		if !ok {
			return nil, api.ErrLabel, place
		}
		if len(c.Values) > api.MaxValues {
			return nil, api.ErrLong, place
		}
		l = append(l, c)
	}
	return l, api.OK, 0
}

// trim leaves out the blanks at both ends; other white room is no blank here.
func trim(s string) string { return strings.Trim(s, " ") }

// parts goes over the parts of a text between the commas that stand in no brackets, empty ones too.
func parts(text string) iter.Seq[string] {
	return func(yield func(string) bool) {
		from, open := 0, 0
		for i := 0; i < len(text); i++ {
			switch c := text[i]; {
			case c == '(':
				open++
			case c == ')' && open > 0:
				open--
			case c == ',' && open == 0:
				if !yield(text[from:i]) {
					return
				}
				from = i + 1
			}
		}
		yield(text[from:])
	}
}

// parseClause reads one of the six forms, with however many values.
func parseClause(text string) (api.Clause, bool) {
	if key, ok := strings.CutPrefix(text, "!"); ok {
		return made(notThere, trim(key))
	}
	key, after := cutWord(text)
	if after == "" {
		return made(there, key)
	}
	// The longer sign goes first: the shorter one is its beginning.
	for _, sign := range []string{"==", "="} {
		if value, ok := strings.CutPrefix(after, sign); ok {
			return made(among, key, trim(value))
		}
	}
	if value, ok := strings.CutPrefix(after, "!="); ok {
		return made(notAmong, key, trim(value))
	}
	return parseMany(key, after)
}

// parseMany reads what stands behind a key: `in` or `notin`, and values in brackets.
func parseMany(key, text string) (api.Clause, bool) {
	// Letters that follow on a key were read as the key's: there was a blank ahead of these.
	sign, list := cutWord(text)
	values, ok := listed(list)
	if !ok {
		return api.Clause{}, false
	}
	switch sign {
	case "in":
		return made(among, key, values...)
	case "notin":
		return made(notAmong, key, values...)
	}
	return api.Clause{}, false
}

// listed is the values of a list in brackets.
func listed(text string) ([]string, bool) {
	inner, opened := strings.CutPrefix(text, "(")
	inner, closed := strings.CutSuffix(inner, ")")
	if !opened || !closed {
		return nil, false
	}
	values := strings.Split(inner, ",")
	for i, value := range values {
		values[i] = trim(value)
	}
	return values, true
}

// cutWord parts the bytes of a word, at the beginning, from what stands behind them and behind the blanks there.
func cutWord(text string) (string, string) {
	n := wordLength(text)
	return text[:n], strings.TrimLeft(text[n:], " ")
}

// made is a clause, and whether its key and its values may be.
func made(kind int, key string, values ...string) (api.Clause, bool) {
	c := api.Clause{Kind: kind, Key: key, Values: values}
	if !sound(c) {
		return api.Clause{}, false
	}
	return c, true
}
