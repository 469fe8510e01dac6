package cron

import (
	"strconv"
	"strings"

	"reveille/api"
)

// maxStep is the greatest step that an item may have.
const maxStep = 99

// Print is the text that is parsed to the spec; nothing, if there is none.
func Print(s api.Spec) string {
	if !May(s) {
		return ""
	}
	var texts [fields]string
	for i, m := range marksOf(s) {
		texts[i] = printField(m, scopes[i])
		if texts[i] == "" {
			return ""
		}
	}
	return strings.Join(texts[:], " ")
}

func printField(m marks, s scope) string {
	if !m.star {
		return list(m.bits, s)
	}
	if m.bits == s.all() {
		return "*"
	}
	for step := 2; step <= maxStep; step++ {
		if m.bits == s.values(s.least, s.most, step) {
			return "*/" + strconv.Itoa(step)
		}
	}
	return ""
}

func list(bits uint64, s scope) string {
	var texts []string
	for v := s.least; v <= s.most; v++ {
		if has(bits, v) {
			texts = append(texts, strconv.Itoa(v))
		}
	}
	return strings.Join(texts, ",")
}
