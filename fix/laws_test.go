package fix_test

import (
	"testing"

	"shuttle/api"
	"shuttle/fix"
)

// joined is f(f(a, b), c), or its first error.
func joined(f binary, a, b, c int64) (int64, api.Errno) {
	n, e := f(a, b)
	if e != api.OK {
		return 0, e
	}
	return f(n, c)
}

// P1.6: Add and Mul are commutative, errors and all.
func TestCommutative(t *testing.T) {
	for _, f := range []binary{fix.Add, fix.Mul} {
		for _, a := range everyNumber() {
			for _, b := range everyNumber() {
				m, d := f(a, b)
				n, e := f(b, a)
				if m != n || d != e {
					t.Fatal(a, b, m, d, n, e)
				}
			}
		}
	}
}

// P1.6: Add and Mul are associative, and Mul distributes over Add, wherever nothing is out of range.
func TestAssociativeAndDistributive(t *testing.T) {
	held := 0
	for _, a := range few() {
		for _, b := range few() {
			for _, c := range few() {
				for _, f := range []binary{fix.Add, fix.Mul} {
					left, d := joined(f, a, b, c)
					right, e := joined(f, b, c, a)
					if d == api.OK && e == api.OK {
						held++
						if left != right {
							t.Fatal("not associative", a, b, c, left, right)
						}
					}
				}
				sum, d := fix.Add(b, c)
				ab, e := fix.Mul(a, b)
				ac, f := fix.Mul(a, c)
				if d != api.OK || e != api.OK || f != api.OK {
					continue
				}
				left, d := fix.Mul(a, sum)
				right, e := fix.Add(ab, ac)
				held++
				if left != right || d != e {
					t.Fatal("not distributive", a, b, c, left, d, right, e)
				}
			}
		}
	}
	if held < 10000 {
		t.Error("hardly anything was in range:", held)
	}
}

// P1.7: a is b times Quo plus Rem; Mod differs from Rem by b or by 0, is smaller than b and on its side of 0.
func TestDivision(t *testing.T) {
	for _, a := range fixnums() {
		for _, b := range fixnums() {
			if b == 0 {
				continue
			}
			rem, e := fix.Rem(a, b)
			mod, f := fix.Mod(a, b)
			if e != api.OK || f != api.OK {
				t.Fatal(a, b, e, f)
			}
			if mod != rem && mod != rem+b || mod != 0 && (mod < 0) != (b < 0) || rem != 0 && (rem < 0) != (a < 0) {
				t.Fatal(a, b, rem, mod)
			}
			if mod >= max(b, -b) || -mod >= max(b, -b) || rem >= max(b, -b) || -rem >= max(b, -b) {
				t.Fatal(a, b, rem, mod)
			}
			quo, e := fix.Quo(a, b)
			if over := a == api.FixMin && b == -1; over != (e == api.ErrOver) {
				t.Fatal(a, b, quo, e)
			} else if !over && (e != api.OK || b*quo+rem != a) {
				t.Fatal(a, b, quo, rem, e)
			}
		}
	}
}

// P1.7: Gcd divides both numbers, and what divides both divides it.
func TestGcdDivides(t *testing.T) {
	for _, a := range fixnums() {
		for _, b := range fixnums() {
			g, e := fix.Gcd(a, b)
			if e == api.ErrOver && g == 0 && (a == 0 || a == api.FixMin) && (b == 0 || b == api.FixMin) {
				continue
			}
			if e != api.OK || g < 0 || (g == 0) != (a == 0 && b == 0) {
				t.Fatal(a, b, g, e)
			}
			if g == 0 {
				continue
			}
			if a%g != 0 || b%g != 0 {
				t.Fatal(a, b, g, "does not divide both")
			}
			for d := int64(1); d <= 64; d++ {
				if a%d == 0 && b%d == 0 && g%d != 0 {
					t.Fatal(a, b, g, "is not divided by", d)
				}
			}
		}
	}
}

// P1.8: a power of a sum of exponents is the product of the powers.
func TestPowOfSum(t *testing.T) {
	for _, a := range fixnums() {
		for m := range int64(31) {
			for n := range int64(31) {
				all, e := fix.Pow(a, m+n)
				p, f := fix.Pow(a, m)
				q, g := fix.Pow(a, n)
				if f != api.OK || g != api.OK {
					if e != api.ErrOver {
						t.Fatal(a, m, n, e, f, g)
					}
					continue
				}
				if product, h := fix.Mul(p, q); product != all || h != e {
					t.Fatal(a, m, n, all, e, product, h)
				}
			}
		}
	}
}

// R4: the same calls have the same results.
func TestAgain(t *testing.T) {
	for _, a := range few() {
		for _, b := range few() {
			for _, f := range []binary{fix.Add, fix.Sub, fix.Mul, fix.Quo, fix.Rem, fix.Mod, fix.Gcd, fix.Pow} {
				m, d := f(a, b)
				if n, e := f(a, b); m != n || d != e {
					t.Fatal(a, b, m, d, n, e)
				}
			}
		}
	}
}
