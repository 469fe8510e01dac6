package frame

import (
	"bytes"
	"encoding/binary"
	"hash/crc32"
	"math"
	"math/rand"
	"slices"
	"testing"

	"reveille/api"
)

const most = 65536

// slowFrame goes by the chapter's words, of a payload of any length.
func slowFrame(payload []byte) []byte {
	length := binary.BigEndian.AppendUint32(nil, uint32(len(payload)))
	sum := crc32.ChecksumIEEE(append(slices.Clone(length), payload...))
	return append(binary.BigEndian.AppendUint32(length, sum), payload...)
}

// frames is the frames of payloads, one behind the other.
func frames(payloads ...[]byte) []byte {
	var b []byte
	for _, payload := range payloads {
		b = append(b, slowFrame(payload)...)
	}
	return b
}

func randomBytes(r *rand.Rand, n int) []byte {
	b := make([]byte, n)
	r.Read(b)
	return b
}

func randomPayloads(r *rand.Rand) [][]byte {
	l := make([][]byte, r.Intn(6))
	for i := range l {
		l[i] = randomBytes(r, r.Intn(4)*r.Intn(9))
	}
	return l
}

// finds checks what All and First find in b.
func finds(t *testing.T, name string, b []byte, want [][]byte, size int) {
	t.Helper()
	kept := bytes.Clone(b)
	l, n := All(b)
	if n != size || !slices.EqualFunc(l, want, bytes.Equal) {
		t.Errorf("%s: %X, %d, not %X, %d", name, l, n, want, size)
	}
	payload, n, ok := First(b)
	if len(want) == 0 {
		if ok || n != 0 || len(payload) != 0 {
			t.Errorf("%s: first %X, %d, %v", name, payload, n, ok)
		}
	} else if !ok || n != 8+len(want[0]) || !bytes.Equal(payload, want[0]) {
		t.Errorf("%s: first %X, %d, %v", name, payload, n, ok)
	}
	if !bytes.Equal(b, kept) {
		t.Errorf("%s: changed to %X", name, b)
	}
}

// P8.1

func TestPut(t *testing.T) {
	r := rand.New(rand.NewSource(1))
	for _, n := range []int{0, 1, 2, 3, 4, 5, 8, 255, 256, 257, 4096, 65535, most} {
		for _, ahead := range [][]byte{nil, {}, {7}, randomBytes(r, 100), frames([]byte("a"), nil)} {
			payload := randomBytes(r, n)
			want := append(bytes.Clone(ahead), slowFrame(payload)...)
			if got, e := Put(ahead, payload); e != api.OK || !bytes.Equal(got, want) {
				t.Errorf("%d behind %d: %d, %d bytes", n, len(ahead), e, len(got))
			}
		}
	}
}

func TestPutOfWhatIsTooLong(t *testing.T) {
	for _, n := range []int{most + 1, most + 2, 2 * most, 1 << 20} {
		for _, ahead := range [][]byte{nil, []byte("xyz")} {
			if b, e := Put(ahead, make([]byte, n)); e != api.ErrLong || len(b) != 0 {
				t.Error(n, e, len(b))
			}
		}
	}
}

func TestSize(t *testing.T) {
	for n, want := range map[int]int{0: 8, 1: 9, 100: 108, 65535: 65543, most: 65544, most + 1: 0, most + 2: 0, 1 << 20: 0} {
		if got := Size(make([]byte, n)); got != want {
			t.Errorf("%d: %d, not %d", n, got, want)
		}
	}
	if Size(nil) != 8 {
		t.Error("of none")
	}
}

func TestFirst(t *testing.T) {
	r := rand.New(rand.NewSource(2))
	for _, n := range []int{0, 1, 2, 255, 256, 65535, most} {
		payload := randomBytes(r, n)
		frame := slowFrame(payload)
		for _, behind := range [][]byte{nil, {0}, randomBytes(r, 50), frames(nil, []byte("x"))} {
			got, size, ok := First(append(bytes.Clone(frame), behind...))
			if !ok || size != len(frame) || !bytes.Equal(got, payload) {
				t.Errorf("%d, with %d behind: %d bytes, %d, %v", n, len(behind), len(got), size, ok)
			}
		}
	}
}

// P8.1, P8.2

func TestWhatIsNoFrame(t *testing.T) {
	long := slowFrame(make([]byte, most+1))
	good := slowFrame([]byte("good"))
	for name, b := range map[string][]byte{
		"nothing":                   nil,
		"an empty list":             {},
		"one byte":                  {0},
		"a head without its end":    slowFrame(nil)[:7],
		"zeros":                     make([]byte, 8),
		"many zeros":                make([]byte, 100),
		"set bits":                  bytes.Repeat([]byte{0xFF}, 100),
		"no payload":                good[:8],
		"a payload without its end": good[:len(good)-1],
		"one that is too long":      long,
		"one byte ahead":            append([]byte{0}, good...),
		"of a length of 2^31":       {0x80, 0, 0, 0, 1, 2, 3, 4, 5},
		"of a length of 2^32 - 1":   {0xFF, 0xFF, 0xFF, 0xFF, 1, 2, 3, 4, 5},
		"of a length of 2^32 - 8":   {0xFF, 0xFF, 0xFF, 0xF8, 1, 2, 3, 4, 5},
		"a sum's lowest byte first": {0, 0, 0, 0, 0x1C, 0xDF, 0x44, 0x21},
	} {
		finds(t, name, b, nil, 0)
		// Behind a frame it ends the whole part.
		finds(t, name+", behind one", append(bytes.Clone(good), b...), [][]byte{[]byte("good")}, len(good))
	}
}

// Each length that is said, but the right one, is at fault, whatever the sum.
func TestLengthsThatAreNot(t *testing.T) {
	for _, length := range []uint32{0, 1, 3, 5, 6, most, most + 1, 1 << 24, 1 << 31, math.MaxUint32} {
		head := binary.BigEndian.AppendUint32(nil, length)
		for _, sum := range []uint32{crc32.ChecksumIEEE(append(slices.Clone(head), "good"...)), crc32.ChecksumIEEE([]byte("good"))} {
			b := append(binary.BigEndian.AppendUint32(slices.Clone(head), sum), "good"...)
			finds(t, "length", b, nil, 0)
		}
	}
}

// P8.2

func TestAll(t *testing.T) {
	r := rand.New(rand.NewSource(3))
	big := randomBytes(r, most)
	for name, payloads := range map[string][][]byte{
		"none":      nil,
		"an empty":  {nil},
		"empties":   {nil, nil, nil},
		"one":       {[]byte("a")},
		"some":      {[]byte("a"), nil, []byte("bc"), []byte("\x00\xFF")},
		"large":     {big, nil, big, []byte("a")},
		"like head": {{0, 0, 0, 0, 0, 0, 0, 0}, slowFrame(nil), slowFrame([]byte("x"))},
	} {
		b := frames(payloads...)
		finds(t, name, b, payloads, len(b))
		finds(t, name+", and a beginning", append(bytes.Clone(b), slowFrame([]byte("xyz"))[:9]...), payloads, len(b))
		finds(t, name+", and none", append(bytes.Clone(b), 1, 2, 3, 4, 5, 6, 7, 8, 9), payloads, len(b))
	}
}

// What is behind a damaged frame is not found, though it be whole.
func TestAllEndsAtTheFirstFault(t *testing.T) {
	payloads := [][]byte{[]byte("one"), []byte("two"), []byte("three")}
	b := frames(payloads...)
	b[11+8] ^= 1
	finds(t, "the second one", b, payloads[:1], 11)
	b[8] ^= 1
	finds(t, "the first one", b, nil, 0)
}

func TestAllOfVeryMany(t *testing.T) {
	const many = 1 << 18
	one := slowFrame(nil)
	l, n := All(bytes.Repeat(one, many))
	if len(l) != many || n != many*len(one) {
		t.Error(len(l), n)
	}
}

// P8.3

func TestWhatWasPutIsRead(t *testing.T) {
	r := rand.New(rand.NewSource(4))
	for range 500 {
		payloads := randomPayloads(r)
		var b []byte
		for _, payload := range payloads {
			size := len(b) + Size(payload)
			var e api.Errno
			if b, e = Put(b, payload); e != api.OK || len(b) != size {
				t.Fatal(e, len(b), size)
			}
		}
		finds(t, "all", b, payloads, len(b))
	}
}

func TestBeginnings(t *testing.T) {
	r := rand.New(rand.NewSource(5))
	for range 50 {
		payloads := randomPayloads(r)
		b := frames(payloads...)
		whole, size := 0, 0
		for n := range len(b) + 1 {
			for whole < len(payloads) && size+8+len(payloads[whole]) <= n {
				size += 8 + len(payloads[whole])
				whole++
			}
			// What lies in the room behind the beginning is not looked at.
			finds(t, "beginning", b[:n], payloads[:whole], size)
		}
	}
}

func TestOneByteThatIsAnother(t *testing.T) {
	r := rand.New(rand.NewSource(6))
	for range 20 {
		payloads := randomPayloads(r)
		b := frames(payloads...)
		size := 0
		for i, payload := range payloads {
			for at := size + 4; at < size+8+len(payload); at++ {
				was := b[at]
				b[at] ^= byte(1 + r.Intn(255))
				finds(t, "damaged", b, payloads[:i], size)
				b[at] = was
			}
			size += 8 + len(payload)
		}
	}
}

// R3

func TestPutLeavesItsArguments(t *testing.T) {
	room := []byte("abcdefghijklmnopqrstuvwxyz")
	b, e := Put(room[:3], room[3:5])
	if e != api.OK || string(room) != "abcdefghijklmnopqrstuvwxyz" {
		t.Errorf("%d %q", e, room)
	}
	want := bytes.Clone(b)
	copy(room, "qqqqqqqqqqqq")
	if !bytes.Equal(b, want) {
		t.Errorf("%X, not %X", b, want)
	}
	other, _ := Put(b, nil)
	for i := range b[:cap(b)] {
		b[:cap(b)][i] = 'q'
	}
	if !bytes.Equal(other, append(want, slowFrame(nil)...)) {
		t.Errorf("%X", other)
	}
}

func TestPayloadsAreApart(t *testing.T) {
	payloads := [][]byte{[]byte("one"), nil, []byte("two"), []byte("three"), nil}
	b := frames(payloads...)
	first, _, _ := First(b)
	l, _ := All(b)
	for i := range b {
		b[i] = 'q'
	}
	if string(first) != "one" || !slices.EqualFunc(l, payloads, bytes.Equal) {
		t.Errorf("%q %q", first, l)
	}
	// Not even what is written behind one's end is another one's.
	for i, payload := range l {
		room := payload[:cap(payload)]
		for at := range room {
			room[at] = 'q'
		}
		_ = append(payload, "behind its end"...)
		if !slices.EqualFunc(l[i+1:], payloads[i+1:], bytes.Equal) {
			t.Errorf("%d: %q", i, l)
		}
	}
	if string(first) != "one" {
		t.Errorf("%q", first)
	}
}

// The chapter's example.

func TestExample(t *testing.T) {
	b, e := Put(nil, []byte("a"))
	sum := crc32.ChecksumIEEE([]byte{0, 0, 0, 1, 'a'})
	want := []byte{0, 0, 0, 1, byte(sum >> 24), byte(sum >> 16), byte(sum >> 8), byte(sum), 0x61}
	if e != api.OK || !bytes.Equal(b, want) {
		t.Errorf("%X, not %X", b, want)
	}
}
