package mix

import (
	"bytes"
	"hash/crc32"
	"math/rand"
	"testing"
)

// slowSum goes by the chapter's words, bit by bit.
func slowSum(b []byte) uint32 {
	sum := uint32(0xFFFFFFFF)
	for _, c := range b {
		sum ^= uint32(c)
		for range 8 {
			out := sum & 1
			sum >>= 1
			if out == 1 {
				sum ^= 0xEDB88320
			}
		}
	}
	return ^sum
}

func randomBytes(r *rand.Rand, n int) []byte {
	b := make([]byte, n)
	r.Read(b)
	return b
}

// P5.1

func TestSum(t *testing.T) {
	for text, want := range map[string]uint32{
		"":          0,
		"123456789": 0xCBF43926,
		"a":         0xE8B7BE43,
		"\x00":      0xD202EF8D,
		"\xFF":      0xFF000000,
		"The quick brown fox jumps over the lazy dog": 0x414FA339,
	} {
		if got := Sum([]byte(text)); got != want {
			t.Errorf("%q: %08X, not %08X", text, got, want)
		}
	}
	if Sum() != 0 || Sum(nil) != 0 || Sum(nil, nil, []byte{}) != 0 {
		t.Error("of nothing")
	}
}

func TestSumOfEachByte(t *testing.T) {
	for c := range 256 {
		b := []byte{byte(c)}
		if got, want := Sum(b), slowSum(b); got != want {
			t.Errorf("%02X: %08X, not %08X", c, got, want)
		}
	}
}

func TestAllSums(t *testing.T) {
	r := rand.New(rand.NewSource(1))
	for range 500 {
		b := randomBytes(r, r.Intn(300))
		want := crc32.ChecksumIEEE(b)
		if want != slowSum(b) || Sum(b) != want {
			t.Fatalf("%X: %08X, not %08X", b, Sum(b), want)
		}
		i := r.Intn(len(b) + 1)
		j := i + r.Intn(len(b)-i+1)
		if got := Sum(b[:i], b[i:j], nil, b[j:]); got != want {
			t.Fatalf("%X in parts to %d, %d: %08X, not %08X", b, i, j, got, want)
		}
		if got := Update(Update(Sum(b[:i]), b[i:j]), b[j:]); got != want {
			t.Fatalf("%X updated at %d, %d: %08X, not %08X", b, i, j, got, want)
		}
	}
	long := randomBytes(r, 1<<20+3)
	if got, want := Sum(long), crc32.ChecksumIEEE(long); got != want {
		t.Errorf("a long one: %08X, not %08X", got, want)
	}
}

func TestUpdate(t *testing.T) {
	r := rand.New(rand.NewSource(2))
	if got := Update(0, []byte("123456789")); got != 0xCBF43926 {
		t.Errorf("from the beginning: %08X", got)
	}
	for range 500 {
		// Any 32 bits are the sum of some bytes.
		sum, b := r.Uint32(), randomBytes(r, r.Intn(40))
		if got, want := Update(sum, b), crc32.Update(sum, crc32.IEEETable, b); got != want {
			t.Fatalf("%08X, %X: %08X, not %08X", sum, b, got, want)
		}
		if Update(sum, nil) != sum {
			t.Fatalf("%08X and nothing behind", sum)
		}
	}
}

// R3

func TestSumLeavesItsParts(t *testing.T) {
	room := []byte("123456789")
	a, b := room[:3], room[3:6]
	Sum(a, b)
	Update(Sum(a), b)
	if !bytes.Equal(room, []byte("123456789")) {
		t.Errorf("%q", room)
	}
}

// P5.3

func TestOneByteIsFound(t *testing.T) {
	r := rand.New(rand.NewSource(3))
	for _, n := range []int{1, 2, 3, 4, 5, 17, 300} {
		b := randomBytes(r, n)
		want := Sum(b)
		for i := range b {
			was := b[i]
			for other := 1; other < 256; other++ {
				b[i] = was ^ byte(other)
				if Sum(b) == want {
					t.Fatalf("byte %d of %X", i, b)
				}
			}
			b[i] = was
		}
	}
}
