package wal

import (
	"slices"
	"strconv"
	"strings"

	"reveille/api"
	"reveille/frame"
)

// noDigits is as many digits as the number in a segment's name has.
const noDigits = "0000000000"

// numberSize is how many bytes a number has that stands in a frame.
const numberSize = 8

// segment is a file of records.
type segment struct {
	file  string
	first int // the number that its name says
	bytes []byte
}

func (l *Log) stateFile() string { return l.name + ".snap" }

func (l *Log) draftFile() string { return l.name + ".tmp" }

// segmentFile is the name of the segment whose first record has a number.
func (l *Log) segmentFile(first int) string {
	digits := noDigits + strconv.Itoa(first)
	return l.name + "." + digits[len(digits)-len(noDigits):]
}

// firstOf is the number that a segment's name says, and whether that is a segment's name.
func (l *Log) firstOf(file string) (int, bool) {
	digits, ok := strings.CutPrefix(file, l.name+".")
	if !ok || len(digits) != len(noDigits) {
		return 0, false
	}
	// It takes digits alone: no sign, and no blank.
	first, err := strconv.ParseUint(digits, 10, 64)
	return int(first), err == nil
}

// segments is all segments, by rising numbers.
func (l *Log) segments() []segment {
	var all []segment
	for _, f := range l.disk.List() {
		if first, ok := l.firstOf(f.Name); ok {
			all = append(all, segment{file: f.Name, first: first, bytes: f.Bytes})
		}
	}
	return all
}

// each does something to the file of each segment, till that is refused.
func each(segments []segment, do func(file string) api.Errno) api.Errno {
	for _, g := range segments {
		if e := do(g.file); e != api.OK {
			return e
		}
	}
	return api.OK
}

// framedAs is the frame of a number and b.
func framedAs(number int, b []byte) ([]byte, api.Errno) {
	if len(b) > api.MaxRecord {
		return nil, api.ErrLong
	}
	var head [numberSize]byte
	for i := range head {
		head[i] = byte(number >> (8 * (numberSize - 1 - i)))
	}
	return frame.Put(nil, slices.Concat(head[:], b))
}

// numbered is the number and the bytes of a frame's payload, and whether it has a number.
func numbered(payload []byte) (uint64, []byte, bool) {
	if len(payload) < numberSize {
		return 0, nil, false
	}
	var number uint64
	for _, c := range payload[:numberSize] {
		number = number<<8 | uint64(c)
	}
	return number, payload[numberSize:], true
}
