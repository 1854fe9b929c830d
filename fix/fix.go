// Package fix is layer 1: arithmetic with fixnums that tells a result out of range and never wraps around.
// See shared/doc/01-fix.md.
package fix

import (
	"math/bits"

	"shuttle/api"
)

// In tells whether a number is a fixnum.
func In(n int64) bool { return api.FixMin <= n && n <= api.FixMax }

// Add, Sub, Mul and Neg are the sum, the difference, the product and the negation.
func Add(a, b int64) (int64, api.Errno) {
	if !In(a) || !In(b) {
		return 0, api.ErrArg
	}
	return exact(a + b) // has at most 62 bits, so int64 still holds it
}

func Sub(a, b int64) (int64, api.Errno) {
	if !In(a) || !In(b) {
		return 0, api.ErrArg
	}
	return exact(a - b)
}

func Mul(a, b int64) (int64, api.Errno) {
	if !In(a) || !In(b) {
		return 0, api.ErrArg
	}
	// A product has up to 121 bits, more than int64 holds.
	high, low := bits.Mul64(size(a), size(b))
	if high != 0 {
		return 0, api.ErrOver
	}
	return signed(low, (a < 0) != (b < 0))
}

func Neg(a int64) (int64, api.Errno) {
	if !In(a) {
		return 0, api.ErrArg
	}
	return exact(-a)
}

// Quo is the quotient, truncated toward 0, Rem what is left of it, Mod the remainder with the divisor's sign.
func Quo(a, b int64) (int64, api.Errno) {
	if e := divisible(a, b); e != api.OK {
		return 0, e
	}
	return exact(a / b)
}

func Rem(a, b int64) (int64, api.Errno) {
	if e := divisible(a, b); e != api.OK {
		return 0, e
	}
	return a % b, api.OK
}

func Mod(a, b int64) (int64, api.Errno) {
	rest, e := Rem(a, b)
	if e == api.OK && rest != 0 && (rest < 0) != (b < 0) {
		rest += b
	}
	return rest, e
}

// Gcd is the greatest integer that divides both without remainder, and 0 for 0 and 0.
func Gcd(a, b int64) (int64, api.Errno) {
	if !In(a) || !In(b) {
		return 0, api.ErrArg
	}
	// Euclid's way goes through absolute values, because that of FixMin may well be an interim value.
	m, n := size(a), size(b)
	for n != 0 {
		m, n = n, m%n
	}
	return signed(m, false)
}

// Pow is a power.
func Pow(a, n int64) (int64, api.Errno) {
	if !In(a) || !In(n) || n < 0 {
		return 0, api.ErrArg
	}
	// Of -1, 0 and 1 only the exponent's parity matters; any other base is out of range within 61 factors.
	// So the loop is short, however great n is.
	if n > 2 && size(a) <= 1 {
		n = 2 - n%2
	}
	power := int64(1)
	for range n {
		next, e := Mul(power, a)
		if e != api.OK {
			return 0, e
		}
		power = next
	}
	return power, api.OK
}

// Sqrt is the greatest integer whose square is at most a.
func Sqrt(a int64) (int64, api.Errno) {
	if !In(a) || a < 0 {
		return 0, api.ErrArg
	}
	// A fixnum's root has at most 30 bits, so every square that is tried is below 2^60.
	const width = 30
	root := int64(0)
	for i := range width {
		next := root | 1<<(width-1-i)
		if next*next <= a {
			root = next
		}
	}
	return root, api.OK
}

// Sum and Prod go from left to right, up to the first error.
func Sum(l ...int64) (int64, api.Errno) { return fold(Add, 0, l) }

func Prod(l ...int64) (int64, api.Errno) { return fold(Mul, 1, l) }

func fold(step func(a, b int64) (int64, api.Errno), start int64, l []int64) (int64, api.Errno) {
	total := start
	for _, n := range l {
		next, e := step(total, n)
		if e != api.OK {
			return 0, e
		}
		total = next
	}
	return total, api.OK
}

func divisible(a, b int64) api.Errno {
	if !In(a) || !In(b) {
		return api.ErrArg
	}
	if b == 0 {
		return api.ErrZero
	}
	return api.OK
}

func exact(n int64) (int64, api.Errno) {
	if !In(n) {
		return 0, api.ErrOver
	}
	return n, api.OK
}

// greatest is the greatest absolute value of a fixnum: that of FixMin.
const greatest uint64 = -api.FixMin

// size is a fixnum's absolute value; unsigned, as that of FixMin is no fixnum.
func size(a int64) uint64 {
	if a < 0 {
		return uint64(-a)
	}
	return uint64(a)
}

func signed(amount uint64, negative bool) (int64, api.Errno) {
	if amount > greatest {
		return 0, api.ErrOver
	}
	if negative {
		return -int64(amount), api.OK
	}
	return exact(int64(amount))
}
