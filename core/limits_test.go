package core_test

import (
	"slices"
	"strings"
	"testing"

	"shuttle/api"
	"shuttle/core"
	"shuttle/datum"
)

// endless is an expression that contains itself.
func endless() api.Core {
	c := seq(local(1), api.Core{})
	c.L[1] = c
	return c
}

// bush is a sequence of twice the same one, and so on: 2 to the power of depth nodes in little memory.
func bush(depth int) api.Core {
	c := local(1)
	for range depth {
		c = seq(c, c)
	}
	return c
}

// P7.1, P7.3, P7.4: MaxCore and MaxNest, what is one beyond, and which error comes first.
func TestNodesAndDepth(t *testing.T) {
	x, bad := local(1), api.Core{K: 77}
	for _, l := range []struct {
		what string
		c    api.Core
		e    api.Errno
	}{
		{"as deep as may be", nest(127, x), api.OK},
		{"one too deep", nest(128, x), api.ErrDeep},
		{"far too deep", nest(4000, x), api.ErrDeep},
		{"without end", endless(), api.ErrDeep},
		{"too deep by a CoLambda", nest(127, lambda(x, 2)), api.ErrDeep},
		{"as deep as may be by a CoLambda", nest(126, lambda(x, 2)), api.OK},
		{"as many as may be", seq(many(8191, x)...), api.OK},
		{"one too many", seq(many(8192, x)...), api.ErrLong},
		{"far too many", bush(100), api.ErrLong},
		{"as many as may be in three", call(seq(many(4000, x)...), seq(many(4189, x)...)), api.OK},
		{"one too many in three", call(seq(many(4000, x)...), seq(many(4190, x)...)), api.ErrLong},
		{"as many and as deep as may be", seq(append(many(8064, x), nest(126, x))...), api.OK},
		{"a bush of 8191", bush(12), api.OK},
		{"a bush of 8192", seq(bush(12)), api.OK},
		{"a bush of 8193", seq(seq(bush(12))), api.ErrLong},

		{"too deep and invalid", nest(128, bad), api.ErrDeep},
		{"invalid, as deep as may be", nest(127, bad), api.ErrCore},
		{"too deep and too many", seq(append(many(8064, x), nest(127, x))...), api.ErrDeep},
		{"too many just ahead of too deep", seq(append(many(8065, x), nest(127, x))...), api.ErrLong},
		{"too many and invalid", seq(append(many(8191, x), bad)...), api.ErrLong},
		{"invalid, the last that is let through", seq(append(many(8190, x), bad, x)...), api.ErrCore},
		{"invalid ahead of too many", seq(append([]api.Core{bad}, many(9000, x)...)...), api.ErrCore},
		{"invalid ahead of too deep", seq(bad, nest(200, x)), api.ErrCore},
		{"too deep ahead of invalid", seq(nest(200, x), bad), api.ErrDeep},
		{"too deep ahead of too many", seq(append([]api.Core{nest(200, x)}, many(9000, x)...)...), api.ErrDeep},
		{"too many ahead of too deep", seq(append(many(9000, x), nest(200, x))...), api.ErrLong},
		{"an expression ahead of what is in it", api.Core{K: api.CoIf, L: []api.Core{nest(200, x)}}, api.ErrCore},
		{"no kind, with something in it", api.Core{L: []api.Core{nest(200, x)}}, api.ErrCore},
		{"not in the scope, too deep", nest(128, local(5)), api.ErrDeep},
		{"not in the scope ahead of too deep", seq(local(5), nest(128, x)), api.ErrCore},
		{"a CoDefine ahead of what is in it", call(define("a", nest(200, x))), api.ErrCore},
		{"bound in within ahead of what is in it", lambda(nest(200, x), 1), api.ErrCore},
		{"bound twice ahead of what is in it", lambda(seq(x, lambda(nest(200, x), 9)), 9), api.ErrCore},
	} {
		if got := core.Check(l.c, 1); got != l.e {
			t.Errorf("Check of one that is %s: %d, not %d", l.what, got, l.e)
		}
		holds(t, l.c, []int{1})
	}
}

// P7.2: Same and Alike at these limits.
func TestSameLimits(t *testing.T) {
	x := api.Core{K: 77}
	for _, l := range []struct {
		what string
		c    api.Core
		is   bool
	}{
		{"as deep as may be", nest(127, x), true},
		{"one too deep", nest(128, x), false},
		{"without end", endless(), false},
		{"as many as may be", seq(many(8191, x)...), true},
		{"one too many", seq(many(8192, x)...), false},
		{"far too many", bush(100), false},
		{"a bush of 8192", seq(bush(12)), true},
		{"a bush of 8193", seq(seq(bush(12))), false},
		{"as many and as deep as may be", seq(append(many(8064, x), nest(126, x))...), true},
	} {
		if core.Same(l.c, l.c) != l.is || core.Alike(l.c, l.c) {
			t.Errorf("Same of one that is %s isn't %t, or it is alike", l.what, l.is)
		}
	}
	one := constant(num(1))
	for _, c := range []api.Core{nest(127, one), seq(many(8191, one)...), seq(append(many(8064, one), nest(126, one))...)} {
		if !core.Same(c, c) || !core.Alike(c, c) || core.Alike(c, seq(c)) || core.Alike(seq(c), seq(c)) || core.Same(seq(c), seq(c)) {
			t.Error("Alike of as many or as deep as may be")
		}
	}
	if core.Same(endless(), nest(500, one)) || core.Alike(endless(), nest(500, one)) {
		t.Error("Same of two without end")
	}
	a, b := seq(append(many(8190, one), global("a"))...), seq(append(many(8190, one), global("b"))...)
	if core.Same(a, b) || core.Alike(a, b) || !core.Alike(a, a) {
		t.Error("Same of two that differ in the last node")
	}
}

// P7.1, P7.4: MaxVar and MaxParams, the limits of names and of constants.
func TestOtherLimits(t *testing.T) {
	one := constant(num(1))
	most := with(lambda(local(32), upTo(32)...), func(c *api.Core) { c.N = 1 })
	deepest, widest := num(1), list(slices.Repeat([]api.Datum{num(1)}, 4095)...)
	for range 63 {
		deepest = list(deepest)
	}
	for _, l := range []struct {
		what string
		c    api.Core
		e    api.Errno
	}{
		{"MaxVar", local(1 << 20), api.OK},
		{"beyond MaxVar", local(1<<20 + 1), api.ErrCore},
		{"far beyond MaxVar", local(1<<32 + 1), api.ErrCore},
		{"MaxVar, set", set(1<<20, one), api.OK},
		{"beyond MaxVar, set", set(1<<20+1, one), api.ErrCore},
		{"MaxVar, bound", lambda(one, 1<<20-1), api.OK},
		{"beyond MaxVar, bound", lambda(one, 1<<20+1), api.ErrCore},
		{"far beyond MaxVar, bound", lambda(one, 1<<32+7), api.ErrCore},
		{"MaxParams", lambda(local(1), upTo(32)...), api.OK},
		{"MaxParams, the last one takes more", most, api.OK},
		{"beyond MaxParams", lambda(one, upTo(33)...), api.ErrCore},
		{"beyond MaxParams, the last one takes more", with(lambda(one, upTo(33)...), func(c *api.Core) { c.N = 1 }), api.ErrCore},
		{"far beyond MaxParams", lambda(one, upTo(100000)...), api.ErrCore},
		{"the last twice", lambda(one, append(upTo(31), 31)...), api.ErrCore},
		{"the first twice", lambda(one, append(upTo(31), 1)...), api.ErrCore},
		{"as many bytes as a symbol has", global(strings.Repeat("y", 32)), api.OK},
		{"one more", global(strings.Repeat("y", 33)), api.ErrCore},
		{"as many bytes as a symbol has, in a CoDefine", define(strings.Repeat("y", 32), one), api.OK},
		{"one more, in a CoDefine", define(strings.Repeat("y", 33), one), api.ErrCore},
		{"one more, in a CoAssign", api.Core{K: api.CoAssign, S: strings.Repeat("y", 33), L: []api.Core{one}}, api.ErrCore},
		{"the deepest constant", constant(deepest), api.OK},
		{"one deeper", constant(list(deepest)), api.ErrCore},
		{"the widest constant", constant(widest), api.OK},
		{"one wider", constant(list(append(widest.L, num(1))...)), api.ErrCore},
		{"a mark in the last place", constant(list(append(slices.Clone(widest.L[1:]), sym("a", 1))...)), api.ErrCore},
	} {
		within := []int{1 << 20, 1<<20 + 1, 1<<32 + 1}
		if l.c.K == api.CoLambda {
			within = []int{77}
		}
		if got := core.Check(l.c, within...); got != l.e {
			t.Errorf("Check of %s: %d, not %d", l.what, got, l.e)
		}
		holds(t, l.c, within, within[1:])
	}
	for v := int64(0); v <= 1<<20+1; v += 1 << 10 {
		holds(t, local(v), []int{int(v)})
	}
}

// P7.1: within may be whatever it is.
func TestWithin(t *testing.T) {
	c := lambda(seq(local(2), local(1)), 2)
	for _, within := range [][]int{nil, {}, {1}, {1, 1, 1}, {2}, {1, 2}, {0, 1, -7, 1 << 20, 1<<20 + 1, 1<<63 - 1, -1 << 63}, upTo(1), upTo(5000), slices.Repeat([]int{1}, 100000)} {
		holds(t, c, within)
	}
}

// P7.4: which expressions' lists are just short enough and just shallow enough.
func TestListLimits(t *testing.T) {
	one := constant(num(1))
	full := seq(append(many(1363, one), seq(one))...) // 2 + 3*1363 + 2 + 3 nodes
	for _, l := range []struct {
		what string
		c    api.Core
		e    api.Errno
	}{
		{"MaxNodes", full, api.OK},
		{"one more node", seq(append(many(1363, one), seq(constant(list(num(1)))))...), api.ErrLong},
		{"MaxNodes by parameters", seq(append(many(1361, one), lambda(one, upTo(5)...))...), api.OK},
		{"one parameter more", seq(append(many(1361, one), lambda(one, upTo(6)...))...), api.ErrLong},
		{"MaxDeep", nest(62, one), api.OK},
		{"one deeper", nest(63, one), api.ErrDeep},
		{"MaxDeep by a constant", nest(61, constant(list(num(1)))), api.OK},
		{"one deeper by a constant", nest(62, constant(list(num(1)))), api.ErrDeep},
		{"MaxDeep by a constant's tail", nest(61, constant(d("(1 . 2)"))), api.OK},
		{"one deeper by parameters", nest(62, lambda(one, 1)), api.ErrDeep},
		{"MaxDeep by parameters", nest(61, lambda(one, 1)), api.OK},
		{"MaxDeep by an empty list", nest(62, constant(list())), api.OK},
		{"one deeper by an empty list", nest(63, constant(list())), api.ErrDeep},
		{"many large constants", seq(many(8000, constant(list(slices.Repeat([]api.Datum{num(1)}, 4095)...)))...), api.ErrLong},
	} {
		got, f := core.Datum(l.c)
		if f != l.e || f == api.OK && datum.Check(got) != api.OK {
			t.Errorf("Datum of %s: %d, not %d", l.what, f, l.e)
		}
		if l.what != "many large constants" { // their nodes are too many for the other calls' answers
			holds(t, l.c)
		}
	}
	if x, f := core.Datum(full); f != api.OK || datum.Size(x) != 4096 || !holdsOf(t, x) {
		t.Error("a list of MaxNodes")
	}
}
