// Package num has whole numbers and rounding: the arithmetic of the general rules as functions. It is described in doc/01-num.md.
package num

import (
	"math/bits"

	"printworks/api"
)

// Floor returns the quotient of a and b, rounded down, and its remainder.
func Floor(a, b int) (int, int, api.Errno) {
	if e := checkDivision(b, a, b); e != api.OK {
		return 0, 0, e
	}
	q, r := floor(a, b)
	return q, r, api.OK
}

// Round returns the quotient of a and b, rounded to the nearest number, half up.
func Round(a, b int) (int, api.Errno) {
	if e := checkDivision(b, a, b); e != api.OK {
		return 0, e
	}
	q, _ := floor(2*a+b, 2*b)
	return q, api.OK
}

// MulDiv returns the quotient of a b and c, rounded down.
func MulDiv(a, b, c int) (int, api.Errno) {
	if e := checkDivision(c, a, b, c); e != api.OK {
		return 0, e
	}
	// The product may need 81 bits, so the quotient is taken of its magnitude in two words.
	high, low := bits.Mul64(magnitude(a), magnitude(b))
	if high >= uint64(c) {
		return 0, api.ErrOver
	}
	q, r := bits.Div64(high, low, uint64(c))
	if q > api.MaxNum {
		return 0, api.ErrOver
	}
	if (a < 0) == (b < 0) {
		return int(q), api.OK
	}
	return negated(int(q), r != 0)
}

// negated returns the floor of a negative quotient whose magnitude is q or, with a rest, a fraction more.
func negated(q int, rest bool) (int, api.Errno) {
	if rest {
		q++
	}
	if q > api.MaxNum {
		return 0, api.ErrOver
	}
	return -q, api.OK
}

// Root returns the greatest number whose square is at most n.
func Root(n int) (int, api.Errno) {
	if n < 0 || n > 1<<62 {
		return 0, api.ErrRange
	}
	if n == 0 {
		return 0, api.OK
	}
	// Newton's steps go down from a power of two that is not less than the root, and the first one that does not stands at the root.
	root := 1 << ((bits.Len64(uint64(n)) + 1) / 2)
	for {
		next := (root + n/root) / 2
		if next >= root {
			return root, api.OK
		}
		root = next
	}
}

// Gcd returns the greatest common divisor of a and b, which is not negative.
func Gcd(a, b int) (int, api.Errno) {
	if !inRange(a, b) {
		return 0, api.ErrRange
	}
	for b != 0 {
		a, b = b, a%b
	}
	return int(magnitude(a)), api.OK
}

// Mul255 returns the product of two amounts, of which 255 is the whole.
func Mul255(a, b uint8) uint8 {
	return part255(uint(a) * uint(b))
}

// Mix255 returns the amount that lies between a and b in the proportion t.
func Mix255(a, b, t uint8) uint8 {
	return part255(uint(255-t)*uint(a) + uint(t)*uint(b))
}

// part255 returns Round(n, 255); both its callers pass at most 255 * 255.
func part255(n uint) uint8 {
	return uint8((2*n + 255) / 510)
}

// checkDivision returns the error of a division by the given divisor, which is one of the numbers.
func checkDivision(divisor int, numbers ...int) api.Errno {
	if !inRange(numbers...) {
		return api.ErrRange
	}
	if divisor < 1 {
		return api.ErrArg
	}
	return api.OK
}

func inRange(numbers ...int) bool {
	for _, n := range numbers {
		if n < -api.MaxNum || n > api.MaxNum {
			return false
		}
	}
	return true
}

// floor returns the quotient and the remainder for b > 0; Go rounds quotients towards zero.
func floor(a, b int) (int, int) {
	q, r := a/b, a%b
	if r < 0 {
		return q - 1, r + b
	}
	return q, r
}

func magnitude(n int) uint64 {
	if n < 0 {
		return uint64(-n)
	}
	return uint64(n)
}
