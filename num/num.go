// Package num is layer 1 (bounded integer arithmetic): see shared/doc/01-num.md.
package num

import (
	"cardgame/api"
	"strconv"
)

// maskBits is the number of bits of a mask that have a meaning.
const maskBits = 31

// Clamp returns n, or the nearest of -MaxNum and MaxNum if n is outside this range.
func Clamp(n int) int {
	return max(-api.MaxNum, min(n, api.MaxNum))
}

// Add returns the clamped sum of the clamped arguments. Without the first clamping the sum could wrap around.
func Add(a, b int) int {
	return Clamp(Clamp(a) + Clamp(b))
}

// Sub returns the clamped difference of the clamped arguments.
func Sub(a, b int) int {
	return Clamp(Clamp(a) - Clamp(b))
}

// Mul returns the clamped product of the clamped arguments.
func Mul(a, b int) int {
	return Clamp(Clamp(a) * Clamp(b))
}

// Half returns half of Clamp(n), rounded toward positive infinity if up is true, else toward negative infinity.
func Half(n int, up bool) int {
	n = Clamp(n)
	if up {
		n++
	}
	// A shift rounds toward negative infinity, a division toward zero.
	return n >> 1
}

// Bits returns the indexes of the bits that are set in mask, in increasing order. A negative mask has none.
func Bits(mask int) []int {
	var set []int
	if mask < 0 {
		return set
	}
	for i := range maskBits {
		if mask>>i&1 == 1 {
			set = append(set, i)
		}
	}
	return set
}

// Text returns n in decimal.
func Text(n int) string {
	return strconv.Itoa(n)
}

// Number returns the number from -MaxNum to MaxNum whose Text is s, and whether there is one.
func Number(s string) (int, bool) {
	n, err := strconv.Atoi(s)
	// Atoi also accepts a plus sign and leading zeros, which Text never writes.
	if err != nil || n != Clamp(n) || Text(n) != s {
		return 0, false
	}
	return n, true
}

// Meets reports whether n satisfies b.
func Meets(b api.Bound, n int) bool {
	switch b.Kind {
	case api.BAny:
		return true
	case api.BAtLeast:
		return n >= b.N
	case api.BAtMost:
		return n <= b.N
	case api.BExactly:
		return n == b.N
	}
	return false
}
