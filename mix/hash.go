package mix

import "math/bits"

// What a mix is made with, and what undoes it: firstTimes times firstBack is 1 within 64 bits, and so are the second ones.
const (
	firstShift  = 30
	secondShift = 27
	lastShift   = 31
	firstTimes  = 0xBF58476D1CE4E5B9
	secondTimes = 0x94D049BB133111EB
	firstBack   = 0x96DE1B173F119089
	secondBack  = 0x319642B2D24D8EC3
)

// golden is where hashes begin, and what is added at each step, so that noughts leave no hash as it was.
const golden = 0x9E3779B97F4A7C15

// Mix is the mix of x.
func Mix(x uint64) uint64 {
	x = fold(x, firstShift) * firstTimes
	x = fold(x, secondShift) * secondTimes
	return fold(x, lastShift)
}

// Unmix is the number whose mix is x.
func Unmix(x uint64) uint64 {
	x = unfold(x, lastShift) * secondBack
	x = unfold(x, secondShift) * firstBack
	return unfold(x, firstShift)
}

func fold(x uint64, shift int) uint64 { return x ^ x>>shift }

// unfold is the number that is folded to x.
func unfold(x uint64, shift int) uint64 {
	whole := x
	// The highest bits are as they were; by them the next ones are found, and so on.
	for by := shift; by < 64; by += shift {
		whole ^= x >> by
	}
	return whole
}

// Hash is the hash of parts.
func Hash(parts ...string) uint64 {
	h := uint64(golden)
	for _, part := range parts {
		h = stir(h, uint64(len(part)))
		for i := range len(part) {
			h = stir(h, uint64(part[i]))
		}
	}
	return h
}

func stir(h, n uint64) uint64 { return Mix(h^n) + golden }

// Spread is how much of n the hash of parts is: 0 to n - 1.
func Spread(n int, parts ...string) int {
	if n < 1 {
		return 0
	}
	high, _ := bits.Mul64(uint64(n), Hash(parts...))
	return int(high)
}
