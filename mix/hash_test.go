package mix

import (
	"math"
	"math/big"
	"math/rand"
	"slices"
	"strings"
	"testing"
)

// The slow ones go by the chapter's words, in numbers without an end.

func number(hexadecimal string) *big.Int {
	n, ok := new(big.Int).SetString(hexadecimal, 16)
	if !ok {
		panic(hexadecimal)
	}
	return n
}

func within(n *big.Int) *big.Int {
	return n.And(n, new(big.Int).SetUint64(math.MaxUint64))
}

func slowMix(x uint64) uint64 {
	n := new(big.Int).SetUint64(x)
	for _, step := range []struct {
		shift uint
		times string
	}{{30, "BF58476D1CE4E5B9"}, {27, "94D049BB133111EB"}, {31, "1"}} {
		n.Xor(n, new(big.Int).Rsh(n, step.shift))
		n = within(n.Mul(n, number(step.times)))
	}
	return n.Uint64()
}

func slowHash(parts ...string) uint64 {
	h := number("9E3779B97F4A7C15")
	add := func(n int) {
		mixed := slowMix(new(big.Int).Xor(h, big.NewInt(int64(n))).Uint64())
		h = within(new(big.Int).Add(new(big.Int).SetUint64(mixed), number("9E3779B97F4A7C15")))
	}
	for _, part := range parts {
		add(len(part))
		for _, c := range []byte(part) {
			add(int(c))
		}
	}
	return h.Uint64()
}

func slowSpread(n int, parts ...string) int {
	product := new(big.Int).Mul(big.NewInt(int64(n)), new(big.Int).SetUint64(slowHash(parts...)))
	return int(product.Rsh(product, 64).Int64())
}

func randomParts(r *rand.Rand) []string {
	l := make([]string, r.Intn(5))
	for i := range l {
		l[i] = string(randomBytes(r, r.Intn(12)))
	}
	return l
}

// edgeNumbers are single bits, all below a bit, and what is beside these.
func edgeNumbers() []uint64 {
	l := []uint64{0, math.MaxUint64, 0x9E3779B97F4A7C15, 0xBF58476D1CE4E5B9, 0x94D049BB133111EB}
	for bit := range 64 {
		x := uint64(1) << bit
		l = append(l, x, x-1, x+1, ^x)
	}
	return l
}

// P5.1

func TestMix(t *testing.T) {
	for x, want := range map[uint64]uint64{
		0:                  0,
		0x9E3779B97F4A7C15: 0xE220A8397B1DCDAF,
		0x3C6EF372FE94F82A: 0x6E789E6AA1B965F4,
		0xDAA66D2C7DDF743F: 0x06C45D188009454F,
	} {
		if got := Mix(x); got != want {
			t.Errorf("%X: %X, not %X", x, got, want)
		}
	}
	for _, x := range edgeNumbers() {
		if got, want := Mix(x), slowMix(x); got != want {
			t.Errorf("%X: %X, not %X", x, got, want)
		}
	}
	r := rand.New(rand.NewSource(4))
	for range 5000 {
		x := r.Uint64()
		if got, want := Mix(x), slowMix(x); got != want {
			t.Fatalf("%X: %X, not %X", x, got, want)
		}
	}
}

func TestUnmix(t *testing.T) {
	if got := Unmix(0xE220A8397B1DCDAF); got != 0x9E3779B97F4A7C15 {
		t.Errorf("%X", got)
	}
	check := func(x uint64) {
		if got := Mix(Unmix(x)); got != x {
			t.Fatalf("back and there %X: %X", x, got)
		}
		if got := Unmix(Mix(x)); got != x {
			t.Fatalf("there and back %X: %X", x, got)
		}
	}
	for _, x := range edgeNumbers() {
		check(x)
	}
	r := rand.New(rand.NewSource(5))
	for range 20000 {
		check(r.Uint64())
	}
}

// P5.2

func TestHash(t *testing.T) {
	const golden = 0x9E3779B97F4A7C15
	if got := Hash(); got != golden {
		t.Errorf("no parts: %X", got)
	}
	// An empty part has a length: 0.
	if got, want := Hash(""), Mix(golden)+golden; got != want {
		t.Errorf("an empty part: %X, not %X", got, want)
	}
	one := Mix(golden^1) + golden
	if got, want := Hash("a"), Mix(one^'a')+golden; got != want {
		t.Errorf("a: %X, not %X", got, want)
	}
	two := Mix(golden^2) + golden
	two = Mix(two^0xC3) + golden
	if got, want := Hash("\u00E9"), Mix(two^0xA9)+golden; got != want {
		t.Errorf("bytes, not runes: %X, not %X", got, want)
	}
	r := rand.New(rand.NewSource(6))
	for range 1000 {
		parts := randomParts(r)
		if got, want := Hash(parts...), slowHash(parts...); got != want {
			t.Fatalf("%q: %X, not %X", parts, got, want)
		}
	}
	long := strings.Repeat("long\x00\xFF", 1000)
	if got, want := Hash("a", long, "b"), slowHash("a", long, "b"); got != want {
		t.Errorf("a long one: %X, not %X", got, want)
	}
}

func TestHashTellsPartsApart(t *testing.T) {
	seen := map[uint64][]string{}
	for _, parts := range [][]string{
		{}, {""}, {"", ""}, {"\x00"}, {"\x00\x00"}, {"\x00", "\x00"}, {"", "\x00"}, {"\x00", ""},
		{"abc"}, {"ab", "c"}, {"a", "bc"}, {"a", "b", "c"}, {"", "abc"}, {"abc", ""}, {"cba"}, {"c", "ab"}, {"bc", "a"},
	} {
		h := Hash(parts...)
		if other, ok := seen[h]; ok {
			t.Errorf("%q and %q: %X", parts, other, h)
		}
		seen[h] = parts
	}
}

func TestSpread(t *testing.T) {
	r := rand.New(rand.NewSource(7))
	for range 2000 {
		parts := randomParts(r)
		for _, n := range []int{1, 2, 3, 100, 86401, 1 << 32, math.MaxInt, 1 + r.Intn(1<<(1+r.Intn(61)))} {
			got := Spread(n, parts...)
			if want := slowSpread(n, parts...); got != want || got < 0 || got >= n {
				t.Fatalf("%d, %q: %d, not %d", n, parts, got, want)
			}
		}
		for _, n := range []int{0, -1, -2, -86401, math.MinInt, math.MinInt + 1} {
			if got := Spread(n, parts...); got != 0 {
				t.Fatalf("%d, %q: %d", n, parts, got)
			}
		}
	}
	// Of no parts the hash is what it begins with: of 1000 that is 618.
	if got := Spread(1000); got != 618 {
		t.Errorf("no parts: %d", got)
	}
	if Spread(1, "a") != 0 || Spread(1) != 0 {
		t.Error("of one")
	}
}

func TestSpreadIsEven(t *testing.T) {
	const n, each = 16, 1000
	var counts [n]int
	for i := range n * each {
		counts[Spread(n, "job", strings.Repeat("x", i%7), string(rune('a'+i%26)), string(rune(i)))]++
	}
	for i, count := range counts {
		if count < each*8/10 || count > each*12/10 {
			t.Error(i, count)
		}
	}
}

// R3

func TestHashLeavesItsParts(t *testing.T) {
	l := []string{"a", "b", "c"}
	Hash(l[:2]...)
	Spread(9, l[:2]...)
	if !slices.Equal(l, []string{"a", "b", "c"}) {
		t.Error(l)
	}
}

// P5.3

func TestMixIsOneToOne(t *testing.T) {
	seen := map[uint64]uint64{}
	check := func(x uint64) {
		m := Mix(x)
		if other, ok := seen[m]; ok && other != x {
			t.Fatalf("%X and %X: %X", x, other, m)
		}
		seen[m] = x
	}
	for x := range uint64(20000) {
		check(x)
		check(^x)
		check(x << 44)
	}
	for _, x := range edgeNumbers() {
		check(x)
	}
}
