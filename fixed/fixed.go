// Package fixed is layer 1: whole numbers that do not wrap: see shared/doc/01-fixed.md.
package fixed

import (
	"math"
	"math/bits"

	"phalanx/api"
)

// pointBits is how many bits of a number of 32 and 32 bits lie behind the point: api.One is 1 << pointBits.
const pointBits = 32

// Add is a sum; false: it is none of 64 bits (likewise below).
func Add(a, b int64) (int64, bool) {
	sum := a + b
	// It wrapped just if its sign is neither a's nor b's.
	if (a^sum)&(b^sum) < 0 {
		return 0, false
	}
	return sum, true
}

// Sub is a difference.
func Sub(a, b int64) (int64, bool) {
	difference := a - b
	// It wrapped just if the signs of a and b are unlike, and its own is not a's.
	if (a^b)&(a^difference) < 0 {
		return 0, false
	}
	return difference, true
}

// Mul is a product.
func Mul(a, b int64) (int64, bool) {
	high, low := wideProduct(a, b)
	product := int64(low)
	// The high half of a product of 64 bits is its sign and nothing else.
	if high != product>>63 {
		return 0, false
	}
	return product, true
}

// Div is a quotient, rounded down.
func Div(a, b int64) (int64, bool) {
	if b == 0 || a == math.MinInt64 && b == -1 {
		return 0, false
	}
	quotient := a / b
	// Go rounds towards 0: that is one too many where a quotient below 0 leaves a rest.
	if a%b != 0 && (a < 0) != (b < 0) {
		quotient--
	}
	return quotient, true
}

// Mod is what Div leaves: 0, or of the divisor's sign.
func Mod(a, b int64) (int64, bool) {
	quotient, ok := Div(a, b)
	if !ok {
		return 0, false
	}
	// b times a quotient that is rounded down may wrap, but what is left is of 64 bits, so the difference is right.
	return a - b*quotient, true
}

// Shl is a number with so many noughts behind it, as bits.
func Shl(a int64, n int) (int64, bool) {
	if n < 0 {
		return 0, false
	}
	shifted := a << n
	if shifted>>n != a {
		return 0, false
	}
	return shifted, true
}

// Sqrt is the greatest whole number whose square is not above a number.
func Sqrt(a int64) (int64, bool) {
	if a < 0 {
		return 0, false
	}
	var root uint64
	// A root has at most 32 bits, so no square that is tried is above 64 bits without sign.
	for bit := uint64(1) << 31; bit != 0; bit >>= 1 {
		if next := root | bit; next*next <= uint64(a) {
			root = next
		}
	}
	return int64(root), true
}

// Narrow is a number as one of so many bits with sign.
func Narrow(a int64, bits int) (int64, bool) {
	if bits < 1 || bits > 64 {
		return 0, false
	}
	above := 64 - bits
	if a<<above>>above != a {
		return 0, false
	}
	return a, true
}

// From is a whole number as one of 32 and 32 bits.
func From(n int64) (int64, bool) {
	return Shl(n, pointBits)
}

// Floor is the greatest whole number that is not above one of 32 and 32 bits.
func Floor(q int64) int64 {
	return q >> pointBits
}

// MulQ is a product of two of 32 and 32 bits, rounded down.
func MulQ(a, b int64) (int64, bool) {
	high, low := wideProduct(a, b)
	if _, ok := Narrow(high, pointBits); !ok {
		return 0, false
	}
	// What is shifted out of a number with sign rounds it down, below 0, too.
	return high<<pointBits | int64(low>>pointBits), true
}

// DivQ is a quotient of two of 32 and 32 bits, rounded down.
func DivQ(a, b int64) (int64, bool) {
	dividend, divisor := amount(a), amount(b)
	high, low := dividend>>(64-pointBits), dividend<<pointBits
	// Of a divisor that is not above the high half, so of 0, bits.Div64 panics; the quotient would have more than 64 bits.
	if divisor <= high {
		return 0, false
	}
	quotient, rest := bits.Div64(high, low, divisor)
	return signed((a < 0) != (b < 0), quotient, rest != 0)
}

// Octile is what a way costs that goes so far to the side and so far down.
func Octile(dx, dy int64) (int64, bool) {
	x, y := amount(dx), amount(dy)
	lesser, difference := min(x, y), max(x, y)-min(x, y)
	// Neither term is below 0: where one of them is no number, their sum is none.
	over, ok := times(lesser, api.Diagonal)
	if !ok {
		return 0, false
	}
	along, ok := times(difference, api.Straight)
	if !ok {
		return 0, false
	}
	return Add(over, along)
}

// wideProduct is a product of 128 bits with sign: its high half, and its low half.
func wideProduct(a, b int64) (int64, uint64) {
	high, low := bits.Mul64(uint64(a), uint64(b))
	// Taken without sign, a number below 0 is 2^64 too great, and the product so many times the other number.
	if a < 0 {
		high -= uint64(b)
	}
	if b < 0 {
		high -= uint64(a)
	}
	return int64(high), low
}

// amount is how far a number is from 0; without sign, for that of -2^63 is none with sign.
func amount(a int64) uint64 {
	if a < 0 {
		return -uint64(a)
	}
	return uint64(a)
}

// signed is the number of an amount and a sign, rounded down, if there is a rest.
func signed(below bool, n uint64, rest bool) (int64, bool) {
	if !below {
		if n > math.MaxInt64 {
			return 0, false
		}
		return int64(n), true
	}
	if n > 1<<63 || n == 1<<63 && rest {
		return 0, false
	}
	if rest {
		n++
	}
	return -int64(n), true
}

// times is the product of an amount and a number.
func times(n uint64, by int64) (int64, bool) {
	if n > math.MaxInt64 {
		return 0, false
	}
	return Mul(int64(n), by)
}
