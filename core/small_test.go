package core_test

import (
	"slices"
	"testing"

	"shuttle/api"
	"shuttle/core"
)

// small are all expressions of so many nodes that are made of a few variables and names, valid or not.
func small(nodes int) []api.Core {
	if nodes == 1 {
		return []api.Core{e("(const 5)"), e("(local 1)"), e("(local 2)"), e("(local 3)"), e("(global a)"), e("(seq)"), e("(if)")}
	}
	var l []api.Core
	for _, x := range small(nodes - 1) {
		for _, c := range []api.Core{
			e("(set 1)"), e("(set 3)"), e("(assign b)"), e("(define c)"),
			e("(lambda ())"), e("(lambda (1))"), e("(lambda (2))"), e("(lambda* (3))"), e("(lambda (1 2))"), e("(lambda (2 2))"),
		} {
			c.L = []api.Core{x}
			l = append(l, c)
		}
	}
	for _, inner := range rows(nodes-1, nodes-1) {
		l = append(l, api.Core{K: api.CoSeq, L: inner}, api.Core{K: api.CoCall, L: inner})
		if len(inner) == 3 || nodes < 4 {
			l = append(l, api.Core{K: api.CoIf, L: inner})
		}
	}
	return l
}

// rows are all rows of expressions of so many nodes in all.
func rows(nodes, most int) [][]api.Core {
	if nodes == 0 {
		return [][]api.Core{nil}
	}
	var l [][]api.Core
	for first := 1; first <= nodes; first++ {
		for _, x := range small(first) {
			for _, rest := range rows(nodes-first, most) {
				l = append(l, append([]api.Core{x}, rest...))
			}
		}
	}
	return l
}

func smallUpTo(nodes int) []api.Core {
	var l []api.Core
	for n := 1; n <= nodes; n++ {
		l = append(l, small(n)...)
	}
	return l
}

// P7.1, P7.3, P7.4, P7.5: all small expressions.
func TestSmall(t *testing.T) {
	t.Parallel()
	opened := 0
	for _, c := range smallUpTo(4) {
		if holds(t, c, []int{1}, []int{2, 3}, []int{3, 1, 2, 3}, []int{-1, 0, 4, 1 << 20, 1<<20 + 1}) {
			opened++
		}
	}
	if opened < 2000 {
		t.Error("only so many are open:", opened)
	}
}

// permuted is an expression with its variables 1, 2 and 3 replaced.
func permuted(c api.Core, by [4]int) api.Core {
	c.P = append([]int(nil), c.P...)
	for i, p := range c.P {
		c.P[i] = by[p]
	}
	if uses(c) {
		c.N = int64(by[c.N])
	}
	c.L = append([]api.Core(nil), c.L...)
	for i, x := range c.L {
		c.L[i] = permuted(x, by)
	}
	return c
}

// P7.2: all pairs of small expressions.
func TestSmallSame(t *testing.T) {
	t.Parallel()
	l := smallUpTo(3)
	for i, a := range l {
		for j, b := range l {
			if got := core.Same(a, b); got != (i == j) {
				t.Fatalf("Same(%s, %s): %t", text(a), text(b), got)
			}
		}
	}
}

// P7.2, P7.6: pairs of small valid expressions: they are alike if a permutation of the variables makes one of the other, since no variable is bound twice.
func TestSmallAlike(t *testing.T) {
	t.Parallel()
	var l []api.Core
	var shapes []string // their texts without the numbers of variables
	for _, c := range append(smallUpTo(4), e("(lambda (3 1) (local 1))"), e("(lambda (3 2) (local 3))"), e("(lambda* (1 3) (local 1))"), e("(lambda* (2 1) (local 2))")) {
		a := tell(c)
		if valid := wrong(c, false) == api.OK; valid && len(a.bound) > 0 {
			l = append(l, c)
			shapes = append(shapes, text(permuted(c, [4]int{})))
		} else if core.Alike(c, c) != valid {
			t.Fatalf("%s: Alike with itself isn't %t", text(c), valid)
		}
	}
	alikes := 0
	for i, a := range l {
		var forms []api.Core
		for _, by := range [][4]int{{0, 1, 2, 3}, {0, 1, 3, 2}, {0, 2, 1, 3}, {0, 2, 3, 1}, {0, 3, 1, 2}, {0, 3, 2, 1}} {
			forms = append(forms, permuted(a, by))
		}
		for j, b := range l {
			if (i+j)%9 != 0 && shapes[i] != shapes[j] {
				continue // they differ in more than variables: some of these will do
			}
			want := slices.ContainsFunc(forms, func(form api.Core) bool { return equal(form, b) })
			if got := core.Alike(a, b); got != want {
				t.Fatalf("Alike(%s, %s): %t", text(a), text(b), got)
			}
			if want {
				alikes++
				sameFacts(t, a, b)
			}
		}
	}
	if alikes < len(l)+500 {
		t.Error("only so many are alike:", alikes, "of", len(l))
	}
}

// sameFacts holds what expressions that are alike have in common.
func sameFacts(t *testing.T, a, b api.Core) {
	t.Helper()
	nodes := func(c api.Core) int { return len(slices.Collect(core.All(c))) }
	if !core.Alike(b, a) || nodes(a) != nodes(b) || len(core.Set(a)) != len(core.Set(b)) || !slices.Equal(core.Globals(a), core.Globals(b)) {
		t.Fatalf("%s and %s are alike, but not in what they have in common", brief(a), brief(b))
	}
}

// data are all data of so many nodes that are made of a few words.
func data(nodes int) []api.Datum {
	if nodes == 1 {
		l := []api.Datum{list(), {K: api.DVec}}
		for _, s := range []string{"const", "local", "global", "set", "define", "if", "lambda", "lambda*", "seq", "1", "0", "local^1"} {
			l = append(l, d(s))
		}
		return l
	}
	var l []api.Datum
	for _, inner := range dataRows(nodes - 1) {
		l = append(l, list(inner...))
		if len(inner) < 3 {
			l = append(l, api.Datum{K: api.DVec, L: inner})
		}
		if n := len(inner) - 1; n > 0 {
			l = append(l, api.Datum{K: api.DDot, L: inner[:n], T: inner[n:]})
		}
	}
	return l
}

func dataRows(nodes int) [][]api.Datum {
	if nodes == 0 {
		return [][]api.Datum{nil}
	}
	var l [][]api.Datum
	for first := 1; first <= nodes; first++ {
		for _, x := range data(first) {
			for _, rest := range dataRows(nodes - first) {
				l = append(l, append([]api.Datum{x}, rest...))
			}
		}
	}
	return l
}

// P7.4, P7.5: all small data.
func TestSmallData(t *testing.T) {
	t.Parallel()
	made := 0
	for n := 1; n <= 5; n++ {
		for _, x := range data(n) {
			if n == 5 && (x.K != api.DList || x.L[0].K != api.DSym) {
				continue
			}
			if holdsOf(t, x) {
				made++
			}
		}
	}
	if made < 60 {
		t.Error("only so many are expressions:", made)
	}
}
