package fix_test

import (
	"math"
	"math/big"
	"slices"

	"shuttle/api"
)

// The numbers that the tests go through, and the exact arithmetic they hold the package against.

// strangers are 64-bit numbers that are no fixnums: one beyond each end, and those near which int64 wraps around.
func strangers() []int64 {
	return []int64{api.FixMax + 1, api.FixMin - 1, 1 << 61, -1 << 61, 1 << 62, -1 << 62, math.MaxInt64, math.MinInt64, math.MinInt64 + 1}
}

// fixnums are both ends, small numbers, and numbers whose products and powers come near the ends; with their neighbours.
func fixnums() []int64 {
	var l []int64
	for _, n := range []int64{-1 << 59, -3 << 40, -1 << 31, -1 << 30, -1 << 20, -1 << 15, -1 << 12, -60, 0, 10, 60, 100, 1 << 12, 1 << 15, 1 << 20, 1 << 30, 1 << 31, 3 << 40, 1 << 59} {
		for d := int64(-3); d <= 3; d++ {
			l = append(l, n+d)
		}
	}
	for d := range int64(4) {
		l = append(l, api.FixMin+d, api.FixMax-d)
	}
	l = append(l, mixed(80)...)
	slices.Sort(l)
	return slices.Compact(l)
}

// mixed are fixnums of all lengths and both signs, the same ones each time.
func mixed(count int) []int64 {
	var l []int64
	seed := uint64(88172645463325252)
	for i := range count {
		seed ^= seed << 13
		seed ^= seed >> 7
		seed ^= seed << 17
		l = append(l, int64(seed)>>(3+i*7%58))
	}
	return l
}

func everyNumber() []int64 { return append(fixnums(), strangers()...) }

// few are enough for laws that speak of three numbers.
func few() []int64 {
	l := []int64{api.FixMin, api.FixMin + 1, -1 << 59, -1 << 30, -7, -2, -1, 0, 1, 2, 3, 12, 1 << 20, 1 << 30, 1 << 59, api.FixMax - 1, api.FixMax}
	return append(l, mixed(40)...)
}

// isFixnum says by the document's numerals what a fixnum is, not by the constants of the program.
func isFixnum(n int64) bool { return n >= -1152921504606846976 && n <= 1152921504606846975 }

// limited is what a call has to answer whose exact result is x.
func limited(x *big.Int) (int64, api.Errno) {
	if !x.IsInt64() || !isFixnum(x.Int64()) {
		return 0, api.ErrOver
	}
	return x.Int64(), api.OK
}

// floorMod is Mod by its definition: what Rem leaves, brought to the divisor's side of nought.
func floorMod(z, a, b *big.Int) *big.Int {
	z.Rem(a, b)
	if z.Sign() != 0 && z.Sign() != b.Sign() {
		z.Add(z, b)
	}
	return z
}

func greatestDivisor(z, a, b *big.Int) *big.Int {
	return z.GCD(nil, nil, new(big.Int).Abs(a), new(big.Int).Abs(b))
}
