package datum_test

import (
	"slices"
	"strings"
	"testing"

	"shuttle/api"
	"shuttle/datum"
)

// P2.1: Symbol, by hand.
func TestSymbol(t *testing.T) {
	for s, want := range map[string]bool{
		"": false, "a": true, "Z": true, "set-car!": true, "call/1cc": true, "string->symbol": true, "a1": true, "a.b": true, "a@": true, "a+": true, "a-": true, "<=": true, "x...": true,
		"+": true, "-": true, "...": true, "++": false, "--": false, "+-": false, "+a": false, "-a": false, "-1": false, "+1": false,
		".": false, "..": false, "....": false, "...a": false, ".a": false, "@": false, "@a": false, "1": false, "1a": false,
		"a b": false, " a": false, "a ": false, "a\n": false, "a\x00": false, "a'": false, "a#": false, "a\"": false, "(a": false, "a)": false, "a;": false, "a,": false, "a`": false, "a|b": false, "a\\": false, "a[": false, "a{": false, "a\x7f": false,
		"\u00e9": false, "a\u00e9": false, "a\x80": false, "a\xff": false, "\xe1": false,
		strings.Repeat("a", 32): true, strings.Repeat("a", 33): false, strings.Repeat("a", 1000): false, "a" + strings.Repeat("9", 31): true, "a" + strings.Repeat(".", 32): false,
		strings.Repeat("+", 32): false, strings.Repeat("a", 31) + " ": false,
	} {
		if datum.Symbol(s) != want {
			t.Errorf("Symbol(%q) is %v", s, !want)
		}
	}
}

// P2.1: Symbol for every byte: alone, as a further one, and as the last that may be.
func TestSymbolBytes(t *testing.T) {
	first := "abcdefghijklmnopqrstuvwxyzABCDEFGHIJKLMNOPQRSTUVWXYZ!$%&*/:<=>?^_~"
	further := first + "0123456789+-.@"
	for c := range 256 {
		s := string([]byte{byte(c)})
		if want := strings.Contains(first, s) || s == "+" || s == "-"; datum.Symbol(s) != want {
			t.Errorf("Symbol(%q) is %v", s, !want)
		}
		if want := strings.Contains(first, s); datum.Symbol(s+"a") != want {
			t.Errorf("Symbol(%q) is %v", s+"a", !want)
		}
		for _, ahead := range []string{"a", "~", "a.", strings.Repeat("b", 31)} {
			if want := strings.Contains(further, s); datum.Symbol(ahead+s) != want {
				t.Errorf("Symbol(%q) is %v", ahead+s, !want)
			}
		}
	}
}

// P2.1: Check lets every valid datum through.
func TestCheckValid(t *testing.T) {
	for _, d := range valid() {
		if e := datum.Check(d); e != api.OK {
			t.Errorf("%d of %s", int(e), brief(d))
		}
	}
}

// P2.1: Check tells the first wrong node, and of what is wrong there what comes first.
func TestCheckInvalid(t *testing.T) {
	for _, x := range invalid() {
		if e := datum.Check(x.d); e != x.e {
			t.Errorf("%s: %d, not %d", x.what, int(e), int(x.e))
		}
	}
}

// P2.1: one wrong node anywhere in a valid datum is found, and nothing behind it is.
func TestCheckOneWrong(t *testing.T) {
	for _, d := range grown(60) {
		for i := range parts(d) {
			for _, x := range []flawed{{"no kind", api.Datum{}, api.ErrDatum}, {"too deep", vec(nest(64, num(1))), api.ErrDeep}, {"too many", vec(row(4096)...), api.ErrLong}} {
				marred := mar(d, i, x.d)
				if e := datum.Check(marred); e != x.e {
					t.Fatalf("%s at %d of %v: %d", x.what, i, d, int(e))
				}
				if e := datum.Check(list(marred, api.Datum{}, nest(64, num(1)), vec(row(5000)...))); e != x.e {
					t.Fatalf("%s at %d of %v, and more: %d", x.what, i, d, int(e))
				}
			}
		}
	}
}

// mar is d with x in place of its node number i.
func mar(d api.Datum, i int, x api.Datum) api.Datum {
	var visit func(d api.Datum) api.Datum
	visit = func(d api.Datum) api.Datum {
		i--
		if i < 0 {
			i = 1 << 30
			return x
		}
		d.L, d.T = slices.Clone(d.L), slices.Clone(d.T)
		for _, l := range [][]api.Datum{d.L, d.T} {
			for k := range l {
				l[k] = visit(l[k])
			}
		}
		return d
	}
	return visit(d)
}

// P2.2: Size and Deep, by hand.
func TestSizeAndDeepByHand(t *testing.T) {
	for _, x := range []struct {
		d          api.Datum
		size, deep int
	}{
		{num(1), 1, 1},
		{sym("a", 1, 2), 1, 1},
		{list(), 1, 1},
		{vec(), 1, 1},
		{list(num(1), num(2)), 3, 2},
		{dot(num(2), num(1)), 3, 2},
		{dot(vec(num(3)), num(1), list(list())), 6, 3},
		{dot(vec(list(num(1))), num(1)), 5, 4},
		{list(row(4095)...), 4096, 2},
		{dot(num(1), row(4094)...), 4096, 2},
		{nest(63, num(1)), 64, 64},
		{bush(11), 4095, 12},
	} {
		if s, d := datum.Size(x.d), datum.Deep(x.d); s != x.size || d != x.deep {
			t.Errorf("%s: %d, %d", brief(x.d), s, d)
		}
	}
}

// P2.2: Size, Deep, Clone, Plain and All of every valid datum.
func TestNodes(t *testing.T) {
	for _, d := range valid() {
		want := parts(d)
		if datum.Size(d) != len(want) || datum.Deep(d) != depth(d) {
			t.Errorf("%s: %d, %d", brief(d), datum.Size(d), datum.Deep(d))
		}
		if !even(datum.Clone(d), d) {
			t.Errorf("Clone of %s: %s", brief(d), brief(datum.Clone(d)))
		}
		if !slices.EqualFunc(collect(d), want, even) {
			t.Errorf("All of %s", brief(d))
		}
		bare := func(x, y api.Datum) bool {
			return len(x.M) == 0 && x.K == y.K && x.N == y.N && x.S == y.S && len(x.L) == len(y.L) && len(x.T) == len(y.T)
		}
		if !slices.EqualFunc(parts(datum.Plain(d)), want, bare) {
			t.Errorf("Plain of %s: %s", brief(d), brief(datum.Plain(d)))
		}
	}
}

// P2.2, R2: for an invalid datum there is nothing.
func TestNothingOfInvalid(t *testing.T) {
	for _, x := range invalid() {
		if datum.Size(x.d) != 0 || datum.Deep(x.d) != 0 {
			t.Errorf("%s: %d, %d", x.what, datum.Size(x.d), datum.Deep(x.d))
		}
		if !none(datum.Clone(x.d)) || !none(datum.Plain(x.d)) {
			t.Errorf("%s: there is a Clone, or Plain", x.what)
		}
		if datum.Same(x.d, x.d) || datum.Same(x.d, num(1)) || datum.Same(num(1), x.d) || datum.Same(x.d, datum.Clone(x.d)) {
			t.Errorf("%s: Same", x.what)
		}
		if len(collect(x.d)) != 0 {
			t.Errorf("%s: All", x.what)
		}
	}
}

// P2.2: Same of any two data, which hangs on every field of every node.
func TestSame(t *testing.T) {
	l, again := valid(), valid()
	for i, a := range l {
		for k, b := range again {
			if same := datum.Same(a, b); same != even(a, b) || i == k && !same {
				t.Errorf("%s, %s: %v", brief(a), brief(b), same)
			}
		}
	}
	for _, d := range grown(60) {
		for i := range parts(d) {
			other := mar(d, i, sym("other", 5))
			if datum.Same(d, other) || datum.Same(other, d) {
				t.Fatal("Same with another node", i, d)
			}
		}
	}
	for _, x := range [][2]api.Datum{
		{list(), vec()}, {list(num(1)), vec(num(1))}, {num(1), api.Datum{K: api.DBool, N: 1}}, {num(65), {K: api.DChar, N: 65}},
		{str("a"), sym("a")}, {sym("a"), sym("b")}, {sym("a"), sym("a", 1)}, {sym("a", 1), sym("a", 2)}, {sym("a", 1, 2), sym("a", 2, 1)}, {sym("a", 1), sym("a", 1, 1)},
		{list(num(1), num(2)), dot(num(2), num(1))}, {dot(num(3), num(1), num(2)), dot(num(2), num(1), num(2))}, {list(num(1)), list(num(1), num(1))},
		{list(sym("a", 1)), list(sym("a"))}, {dot(sym("a", 1), num(1)), dot(sym("a"), num(1))},
	} {
		if datum.Same(x[0], x[1]) || datum.Same(x[1], x[0]) {
			t.Error("Same", x)
		}
	}
}

// R6: an empty list is a nil one.
func TestEmptyAndNil(t *testing.T) {
	for _, k := range []int{api.DList, api.DVec} {
		a, b := api.Datum{K: k}, api.Datum{K: k, M: []int{}, L: []api.Datum{}, T: []api.Datum{}}
		if !datum.Same(a, b) || !datum.Same(b, a) || !datum.Same(list(a, b), list(b, a)) {
			t.Error("not Same", k)
		}
		if datum.Check(b) != api.OK || datum.Size(b) != 1 || datum.Deep(b) != 1 {
			t.Error("Check, Size, Deep", k)
		}
	}
	if !datum.Same(num(1), api.Datum{K: api.DFix, N: 1, M: []int{}, L: []api.Datum{}, T: []api.Datum{}}) {
		t.Error("not Same", num(1))
	}
	if !datum.Same(sym("a"), api.Datum{K: api.DSym, S: "a", M: []int{}}) {
		t.Error("not Same", sym("a"))
	}
}

// P2.2: All can be left and gone through again.
func TestAllLeft(t *testing.T) {
	for _, d := range valid() {
		all, want := datum.All(d), parts(d)
		for stop := range min(len(want), 10) {
			seen := 0
			for x := range all {
				if !even(x, want[seen]) {
					t.Fatal("another node", seen)
				}
				if seen == stop {
					break
				}
				seen++
			}
			if seen != stop {
				t.Fatal("stopped after", seen, "not", stop)
			}
		}
		again := 0
		for range all {
			again++
		}
		if again != len(want) {
			t.Fatal("the second time there were", again)
		}
	}
}

// P2.6: All yields Size nodes; Plain has as many nodes and the same depth, and is idempotent.
func TestTraversal(t *testing.T) {
	for _, d := range valid() {
		if n := len(collect(d)); n != datum.Size(d) || n == 0 {
			t.Errorf("%s: %d nodes", brief(d), n)
		}
		p := datum.Plain(d)
		if datum.Check(p) != api.OK || datum.Size(p) != datum.Size(d) || datum.Deep(p) != datum.Deep(d) || !datum.Same(p, datum.Plain(p)) {
			t.Errorf("Plain of %s: %s", brief(d), brief(p))
		}
		for x := range datum.All(p) {
			if len(x.M) != 0 {
				t.Errorf("a mark in Plain of %s", brief(d))
			}
		}
	}
}
