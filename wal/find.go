package wal

import (
	"reveille/api"
	"reveille/frame"
)

// tooMany is more records than a snapshot may stand for.
const tooMany = 1 << 62

// findState finds the snapshot's state, and its number.
func (l *Log) findState() ([]byte, api.Errno) {
	// A name that may not stand in a store's is refused here too.
	b, e := l.disk.Read(l.stateFile())
	if e == api.ErrNone {
		return nil, api.OK
	}
	if e != api.OK {
		return nil, e
	}
	payload, size, ok := frame.First(b)
	number, state, isNumbered := numbered(payload)
	if !ok || size != len(b) || !isNumbered || number >= tooMany {
		return nil, api.ErrLog
	}
	l.base = int(number)
	return state, api.OK
}

// findRecords finds the records behind the snapshot, and leaves on the disk those that count.
func (l *Log) findRecords() ([][]byte, api.Errno) {
	segments := l.segments()
	p := wholePart(segments)
	if len(segments) == 0 || p.next() < l.base || p.first > l.base {
		p = part{first: l.base}
	}
	mend := func() api.Errno { return l.leave(segments, p) }
	if e := inTurn(l.removeDraft, mend); e != api.OK {
		return nil, e
	}
	l.next = p.next()
	if p.left > 0 {
		l.last, l.bytes = segments[p.left-1].file, p.size
	}
	return p.records[l.base-p.first:], api.OK
}

// part is the records that count, and where they stand.
type part struct {
	first   int // the number of the first one
	records [][]byte
	left    int // how many segments, from the first one on, are left
	size    int // how many bytes of the last one of these are
}

func (p part) next() int { return p.first + len(p.records) }

// wholePart is of the segments the records that follow one another.
func wholePart(segments []segment) part {
	var p part
	for i, g := range segments {
		if i == 0 {
			p.first = g.first
		}
		if g.first != p.next() {
			break
		}
		records, size := following(g.bytes, g.first)
		p.records = append(p.records, records...)
		torn := size < len(g.bytes)
		if !torn || size > 0 {
			p.left, p.size = i+1, size
		}
		if torn {
			break
		}
	}
	return p
}

// following is the records at the beginning of a segment's bytes that are numbered from first on, and how many bytes these have.
func following(b []byte, first int) ([][]byte, int) {
	var records [][]byte
	size := 0
	payloads, _ := frame.All(b)
	for i, payload := range payloads {
		number, record, ok := numbered(payload)
		if !ok || number != uint64(first+i) {
			break
		}
		records = append(records, record)
		size += frame.Size(payload)
	}
	return records, size
}

// leave leaves of the segments the part that counts.
func (l *Log) leave(segments []segment, p part) api.Errno {
	if p.left > 0 && p.size < len(segments[p.left-1].bytes) {
		if e := l.disk.Cut(segments[p.left-1].file, p.size); e != api.OK {
			return e
		}
	}
	return each(segments[p.left:], l.disk.Remove)
}
