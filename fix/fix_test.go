package fix_test

import (
	"math/big"
	"slices"
	"testing"

	"shuttle/api"
	"shuttle/fix"
)

type binary = func(a, b int64) (int64, api.Errno)

type exactly = func(z, a, b *big.Int) *big.Int

// P1.1: In knows both ends.
func TestIn(t *testing.T) {
	for _, n := range everyNumber() {
		if fix.In(n) != isFixnum(n) {
			t.Error(n, fix.In(n))
		}
	}
	if api.FixMin != -(1<<60) || api.FixMax != 1<<60-1 {
		t.Error("the ends are elsewhere")
	}
}

// P1.1, P1.2, P1, R1, R2, R7: for any two numbers the exact result, or the error that comes first, with 0.
func TestTwoNumbers(t *testing.T) {
	for _, x := range []struct {
		what    string
		f       binary
		divides bool
		want    exactly
	}{
		{"Add", fix.Add, false, (*big.Int).Add},
		{"Sub", fix.Sub, false, (*big.Int).Sub},
		{"Mul", fix.Mul, false, (*big.Int).Mul},
		{"Quo", fix.Quo, true, (*big.Int).Quo},
		{"Rem", fix.Rem, true, (*big.Int).Rem},
		{"Mod", fix.Mod, true, floorMod},
		{"Gcd", fix.Gcd, false, greatestDivisor},
	} {
		for _, a := range everyNumber() {
			for _, b := range everyNumber() {
				want, wrong := int64(0), api.OK
				switch {
				case !isFixnum(a) || !isFixnum(b):
					wrong = api.ErrArg
				case x.divides && b == 0:
					wrong = api.ErrZero
				default:
					want, wrong = limited(x.want(new(big.Int), big.NewInt(a), big.NewInt(b)))
				}
				if n, e := x.f(a, b); n != want || e != wrong {
					t.Fatalf("%s(%d, %d) is %d, %d; want %d, %d", x.what, a, b, n, int(e), want, int(wrong))
				}
			}
		}
	}
}

// P1.1: Neg.
func TestNeg(t *testing.T) {
	for _, a := range everyNumber() {
		want, wrong := int64(0), api.ErrArg
		if isFixnum(a) {
			want, wrong = limited(new(big.Int).Neg(big.NewInt(a)))
		}
		if n, e := fix.Neg(a); n != want || e != wrong {
			t.Errorf("Neg(%d) is %d, %d; want %d, %d", a, n, int(e), want, int(wrong))
		}
	}
	if n, e := fix.Neg(api.FixMin); n != 0 || e != api.ErrOver {
		t.Error("Neg of the least fixnum:", n, e)
	}
}

// P1.1 to P1.3, by numerals: ordinary pairs, the edges, and which error comes first.
func TestPairsByHand(t *testing.T) {
	const top, bottom = 1152921504606846975, -1152921504606846976
	for _, x := range []struct {
		what    string
		f       binary
		a, b, n int64
		e       api.Errno
	}{
		{"Add", fix.Add, 2, 3, 5, api.OK},
		{"Add", fix.Add, top, 1, 0, api.ErrOver},
		{"Add", fix.Add, bottom, -1, 0, api.ErrOver},
		{"Add", fix.Add, top, bottom, -1, api.OK},
		{"Add", fix.Add, top + 1, -1, 0, api.ErrArg},
		{"Add", fix.Add, -1, top + 1, 0, api.ErrArg},
		{"Sub", fix.Sub, 2, 3, -1, api.OK},
		{"Sub", fix.Sub, bottom, 1, 0, api.ErrOver},
		{"Sub", fix.Sub, 0, bottom, 0, api.ErrOver},
		{"Sub", fix.Sub, -1, bottom, top, api.OK},
		{"Mul", fix.Mul, -4, 5, -20, api.OK},
		{"Mul", fix.Mul, 1 << 30, 1 << 30, 0, api.ErrOver},
		{"Mul", fix.Mul, 1 << 30, -1 << 30, bottom, api.OK},
		{"Mul", fix.Mul, bottom, -1, 0, api.ErrOver},
		{"Mul", fix.Mul, bottom, bottom, 0, api.ErrOver},
		{"Mul", fix.Mul, 1 << 32, 1 << 32, 0, api.ErrOver}, // int64 would wrap around to 0
		{"Mul", fix.Mul, top + 1, 0, 0, api.ErrArg},
		{"Quo", fix.Quo, -7, 2, -3, api.OK},
		{"Quo", fix.Quo, 7, -2, -3, api.OK},
		{"Quo", fix.Quo, -7, -2, 3, api.OK},
		{"Quo", fix.Quo, bottom, -1, 0, api.ErrOver},
		{"Quo", fix.Quo, 0, 0, 0, api.ErrZero},
		{"Quo", fix.Quo, top + 1, 0, 0, api.ErrArg},
		{"Rem", fix.Rem, -7, 2, -1, api.OK},
		{"Rem", fix.Rem, 7, -2, 1, api.OK},
		{"Rem", fix.Rem, bottom, -1, 0, api.OK},
		{"Rem", fix.Rem, 5, 0, 0, api.ErrZero},
		{"Rem", fix.Rem, bottom - 1, 0, 0, api.ErrArg},
		{"Mod", fix.Mod, -7, 2, 1, api.OK},
		{"Mod", fix.Mod, 7, -2, -1, api.OK},
		{"Mod", fix.Mod, -6, 2, 0, api.OK},
		{"Mod", fix.Mod, -7, -2, -1, api.OK},
		{"Mod", fix.Mod, bottom, -1, 0, api.OK},
		{"Mod", fix.Mod, -1, top, top - 1, api.OK},
		{"Mod", fix.Mod, 1, bottom, bottom + 1, api.OK},
		{"Mod", fix.Mod, 5, 0, 0, api.ErrZero},
		{"Mod", fix.Mod, top + 1, 0, 0, api.ErrArg},
		{"Gcd", fix.Gcd, -12, 18, 6, api.OK},
		{"Gcd", fix.Gcd, 0, -5, 5, api.OK},
		{"Gcd", fix.Gcd, 0, 0, 0, api.OK},
		{"Gcd", fix.Gcd, bottom, 0, 0, api.ErrOver},
		{"Gcd", fix.Gcd, bottom, bottom, 0, api.ErrOver},
		{"Gcd", fix.Gcd, bottom, 6, 2, api.OK},
		{"Gcd", fix.Gcd, 0, top + 1, 0, api.ErrArg},
		{"Pow", fix.Pow, 3, 4, 81, api.OK},
		{"Pow", fix.Pow, -3, 3, -27, api.OK},
		{"Pow", fix.Pow, 2, 59, 1 << 59, api.OK},
		{"Pow", fix.Pow, 2, 60, 0, api.ErrOver},
		{"Pow", fix.Pow, -2, 59, -576460752303423488, api.OK},
		{"Pow", fix.Pow, -2, 60, 0, api.ErrOver},
		{"Pow", fix.Pow, -(1 << 20), 3, bottom, api.OK},
		{"Pow", fix.Pow, bottom, 1, bottom, api.OK},
		{"Pow", fix.Pow, bottom, 0, 1, api.OK},
		{"Pow", fix.Pow, 0, 0, 1, api.OK},
		{"Pow", fix.Pow, 0, 1, 0, api.OK},
		{"Pow", fix.Pow, 0, top, 0, api.OK},
		{"Pow", fix.Pow, 1, top, 1, api.OK},
		{"Pow", fix.Pow, -1, top, -1, api.OK},
		{"Pow", fix.Pow, -1, top - 1, 1, api.OK},
		{"Pow", fix.Pow, 2, top, 0, api.ErrOver},
		{"Pow", fix.Pow, 2, -1, 0, api.ErrArg},
		{"Pow", fix.Pow, 1, bottom, 0, api.ErrArg},
		{"Pow", fix.Pow, 1, top + 1, 0, api.ErrArg},
		{"Pow", fix.Pow, top + 1, 0, 0, api.ErrArg},
	} {
		if n, e := x.f(x.a, x.b); n != x.n || e != x.e {
			t.Errorf("%s(%d, %d) is %d, %d; want %d, %d", x.what, x.a, x.b, n, int(e), x.n, int(x.e))
		}
	}
}

// P1.3: Pow for all bases, and exponents about where they go out of range.
func TestPow(t *testing.T) {
	exponents := []int64{-1, -2, api.FixMin, api.FixMin - 1, api.FixMax + 1}
	for n := range int64(64) {
		exponents = append(exponents, n)
	}
	for _, a := range everyNumber() {
		for _, n := range exponents {
			want, wrong := int64(0), api.ErrArg
			if isFixnum(a) && isFixnum(n) && n >= 0 {
				want, wrong = limited(new(big.Int).Exp(big.NewInt(a), big.NewInt(n), nil))
			}
			if p, e := fix.Pow(a, n); p != want || e != wrong {
				t.Fatalf("Pow(%d, %d) is %d, %d; want %d, %d", a, n, p, int(e), want, int(wrong))
			}
		}
	}
}

// P1.3 and P1.8: Sqrt, its square, and the square of the next integer.
func TestSqrt(t *testing.T) {
	numbers := everyNumber()
	for _, r := range []int64{1, 2, 3, 10, 1 << 15, 1<<30 - 2, 1<<30 - 1} {
		numbers = append(numbers, r*r-1, r*r, r*r+1)
	}
	for a := range int64(2000) {
		numbers = append(numbers, a)
	}
	for _, a := range numbers {
		r, e := fix.Sqrt(a)
		if !isFixnum(a) || a < 0 {
			if r != 0 || e != api.ErrArg {
				t.Errorf("Sqrt(%d) is %d, %d", a, r, int(e))
			}
			continue
		}
		if e != api.OK || r < 0 || r*r > a || (r+1)*(r+1) <= a {
			t.Errorf("Sqrt(%d) is %d, %d", a, r, int(e))
		}
	}
	if r, e := fix.Sqrt(api.FixMax); r != 1073741823 || e != api.OK {
		t.Error("Sqrt of the greatest fixnum:", r, e)
	}
}

// P1.3: Sum and Prod go from left to right and stop at the first error.
func TestSumAndProd(t *testing.T) {
	type many = func(l ...int64) (int64, api.Errno)
	for _, x := range []struct {
		what string
		f    many
		l    []int64
		n    int64
		e    api.Errno
	}{
		{"Sum", fix.Sum, nil, 0, api.OK},
		{"Sum", fix.Sum, []int64{}, 0, api.OK},
		{"Sum", fix.Sum, []int64{-7}, -7, api.OK},
		{"Sum", fix.Sum, []int64{1, -2, 30}, 29, api.OK},
		{"Sum", fix.Sum, []int64{api.FixMax, api.FixMin, 1}, 0, api.OK},
		{"Sum", fix.Sum, []int64{api.FixMax, 1, -1}, 0, api.ErrOver},
		{"Sum", fix.Sum, []int64{-1, api.FixMax, 1}, api.FixMax, api.OK},
		{"Sum", fix.Sum, []int64{api.FixMax, 1, api.FixMax + 1}, 0, api.ErrOver},
		{"Sum", fix.Sum, []int64{api.FixMax + 1, api.FixMax, 1}, 0, api.ErrArg},
		{"Sum", fix.Sum, []int64{api.FixMax + 1}, 0, api.ErrArg},
		{"Prod", fix.Prod, nil, 1, api.OK},
		{"Prod", fix.Prod, []int64{}, 1, api.OK},
		{"Prod", fix.Prod, []int64{-7}, -7, api.OK},
		{"Prod", fix.Prod, []int64{2, 3, -4}, -24, api.OK},
		{"Prod", fix.Prod, []int64{1 << 30, -1, 1 << 30}, api.FixMin, api.OK},
		{"Prod", fix.Prod, []int64{1 << 30, 1 << 30, -1}, 0, api.ErrOver},
		{"Prod", fix.Prod, []int64{0, api.FixMax, api.FixMax}, 0, api.OK},
		{"Prod", fix.Prod, []int64{api.FixMax, api.FixMax, 0}, 0, api.ErrOver},
		{"Prod", fix.Prod, []int64{0, api.FixMax + 1}, 0, api.ErrArg},
		{"Prod", fix.Prod, []int64{api.FixMax, 2, api.FixMin - 1}, 0, api.ErrOver},
		{"Prod", fix.Prod, []int64{api.FixMin - 1, api.FixMax, 2}, 0, api.ErrArg},
	} {
		before := slices.Clone(x.l)
		if n, e := x.f(x.l...); n != x.n || e != x.e {
			t.Errorf("%s(%v) is %d, %d; want %d, %d", x.what, x.l, n, int(e), x.n, int(x.e))
		}
		if !slices.Equal(before, x.l) { // R3
			t.Errorf("%s changed %v to %v", x.what, before, x.l)
		}
	}
}
