package cron

import (
	"iter"
	"strings"

	"reveille/api"
)

// The names of months and of days of the week, three letters each.
const (
	monthNames   = "janfebmaraprmayjunjulaugsepoctnovdec"
	weekdayNames = "sunmontuewedthufrisat"
	nameLength   = 3
)

// reader tells the number that a text says, and whether it says one.
type reader func(text string) (int, bool)

// readers is how the numbers of each field are read.
func readers() [fields]reader {
	return [fields]reader{
		number,
		number,
		number,
		named(monthNames, 1),
		named(weekdayNames, 0),
	}
}

// Parse is the spec of a text; or what is at fault, and in which field.
func Parse(text string) (api.Spec, api.Errno, int) {
	if len(text) > api.MaxSpec {
		return api.Spec{}, api.ErrLong, 0
	}
	var all [fields]marks
	read := readers()
	place := 0
	for field := range split(text, blank) {
		if field == "" {
			continue
		}
		if place == fields {
			return api.Spec{}, api.ErrField, place
		}
		m, e := parseField(field, scopes[place], read[place])
		if e != api.OK {
			return api.Spec{}, e, place
		}
		all[place] = m
		place++
	}
	if place < fields {
		return api.Spec{}, api.ErrField, place
	}
	return specOf(all), api.OK, 0
}

func blank(c byte) bool { return c == ' ' || c == '\t' }

func comma(c byte) bool { return c == ',' }

// split goes over the parts of text between the bytes that part them, empty ones too.
func split(text string, parts func(c byte) bool) iter.Seq[string] {
	return func(yield func(string) bool) {
		from := 0
		for i := 0; i < len(text); i++ {
			if !parts(text[i]) {
				continue
			}
			if !yield(text[from:i]) {
				return
			}
			from = i + 1
		}
		yield(text[from:])
	}
}

func parseField(text string, s scope, read reader) (marks, api.Errno) {
	var m marks
	for part := range split(text, comma) {
		it, ok := parseItem(part, read)
		if !ok {
			return marks{}, api.ErrField
		}
		if !it.within(s) {
			return marks{}, api.ErrRange
		}
		m.bits |= it.values(s)
		m.star = m.star || it.star
	}
	return m, api.OK
}

// item is what an item says: a star, or a number, or two; and a step, or none.
type item struct {
	star        bool
	first, last int
	alone       bool
	step        int
	stepped     bool
}

// parseItem looks at an item's form alone, since a wrong form goes ahead of a wrong number.
func parseItem(text string, read reader) (item, bool) {
	it := item{step: 1}
	span, after, stepped := strings.Cut(text, "/")
	if stepped {
		step, ok := stepOf(after)
		if !ok {
			return item{}, false
		}
		it.step, it.stepped = step, true
	}
	if span == "*" {
		it.star = true
		return it, true
	}
	low, high, two := strings.Cut(span, "-")
	first, ok := read(low)
	if !ok {
		return item{}, false
	}
	last := first
	if two {
		last, ok = read(high)
	}
	if !ok {
		return item{}, false
	}
	it.first, it.last, it.alone = first, last, !two
	return it, true
}

// within: are the numbers in their range, in their order, and the step none of 0?
func (it item) within(s scope) bool {
	if it.step == 0 {
		return false
	}
	return it.star || it.first >= s.least && it.last <= s.said && it.first <= it.last
}

func (it item) values(s scope) uint64 {
	first, last := it.first, it.last
	if it.star {
		first, last = s.least, s.most
	} else if it.alone && it.stepped {
		// A Sunday that is said as 7 lies above the greatest value.
		last = max(first, s.most)
	}
	return s.values(first, last, it.step)
}

// number reads one or two decimal digits.
func number(text string) (int, bool) {
	if len(text) < 1 || len(text) > 2 {
		return 0, false
	}
	n := 0
	for i := 0; i < len(text); i++ {
		if text[i] < '0' || text[i] > '9' {
			return 0, false
		}
		n = 10*n + int(text[i]-'0')
	}
	return n, true
}

// stepOf reads a step; 0 too, which is told apart as a number out of its range.
func stepOf(text string) (int, bool) {
	n, ok := number(text)
	if !ok || len(text) > 1 && text[0] == '0' {
		return 0, false
	}
	return n, true
}

// named makes a reader of numbers that have names too, which count from first on.
func named(names string, first int) reader {
	return func(text string) (int, bool) {
		if len(text) != nameLength {
			return number(text)
		}
		for i := 0; i < len(names); i += nameLength {
			if names[i:i+nameLength] == text {
				return first + i/nameLength, true
			}
		}
		return 0, false
	}
}
