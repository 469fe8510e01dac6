package pack

import (
	"bytes"

	"reveille/api"
)

// Reader reads what was packed.
type Reader struct {
	left   []byte
	failed bool
}

// Read is a Reader of b.
func Read(b []byte) *Reader { return &Reader{left: bytes.Clone(b)} }

// Number reads a number.
func (r *Reader) Number() uint64 { return next(r, firstNumber) }

// Int reads an int.
func (r *Reader) Int() int {
	n := r.Number()
	return int(n>>1) ^ -int(n&1)
}

// Flag reads a flag.
func (r *Reader) Flag() bool { return next(r, firstFlag) }

// Text reads a text.
func (r *Reader) Text() string { return next(r, firstText) }

// GetList reads a list, each of its things by get.
func GetList[T any](r *Reader, get func(r *Reader) T) (l []T) {
	// What get may do, no one knows: there may be none at all.
	defer func() {
		if recover() != nil {
			r.fail()
			l = nil
		}
	}()
	for range next(r, firstCount) {
		x := get(r)
		if r.Failed() {
			return nil
		}
		l = append(l, x)
	}
	return l
}

// Left is how many bytes are left; what could not be read is among them.
func (r *Reader) Left() int {
	if r == nil {
		return 0
	}
	return len(r.left)
}

// Failed: was there something that could not be read?
func (r *Reader) Failed() bool { return r == nil || r.failed }

// Done tells whether all was read, and nothing is left.
func (r *Reader) Done() api.Errno {
	if r == nil {
		return api.ErrClosed
	}
	if r.failed || len(r.left) > 0 {
		return api.ErrCode
	}
	return api.OK
}

func (r *Reader) fail() {
	if r != nil {
		r.failed = true
	}
}

// next is the thing that first finds at the beginning of what is left; it goes on behind it. The reader has failed where first finds none: a thing of no bytes.
func next[T any](r *Reader, first func(b []byte) (T, int)) T {
	var none T
	if r.Failed() {
		return none
	}
	x, size := first(r.left)
	if size == 0 {
		r.fail()
		return none
	}
	r.left = r.left[size:]
	return x
}

// firstNumber is the number with which b begins, and how many bytes that has; none, if it begins with none.
func firstNumber(b []byte) (uint64, int) {
	var n uint64
	for i := range min(len(b), mostBytes) {
		shift := i * sevenBits
		part := uint64(b[i] & low)
		if part<<shift>>shift != part {
			return 0, 0
		}
		n |= part << shift
		if b[i]&more != 0 {
			continue
		}
		if part == 0 && i > 0 {
			return 0, 0
		}
		return n, i + 1
	}
	return 0, 0
}

// firstUpTo is firstNumber, of numbers that are not above a limit. A greater one is none: what may not be is not read, so that its bytes are left.
func firstUpTo(b []byte, limit uint64) (uint64, int) {
	n, size := firstNumber(b)
	if n > limit {
		return 0, 0
	}
	return n, size
}

func firstFlag(b []byte) (bool, int) {
	if len(b) == 0 || b[0] > 1 {
		return false, 0
	}
	return b[0] == 1, 1
}

func firstText(b []byte) (string, int) {
	length, size := firstUpTo(b, api.MaxText)
	if size == 0 || int(length) > len(b)-size {
		return "", 0
	}
	end := size + int(length)
	return string(b[size:end]), end
}

// firstCount is how many things a list has.
func firstCount(b []byte) (uint64, int) { return firstUpTo(b, api.MaxMany) }
