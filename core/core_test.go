package core_test

import (
	"slices"
	"testing"

	"shuttle/api"
	"shuttle/core"
	"shuttle/datum"
)

// P7.1: what is valid, within which variables.
func TestCheck(t *testing.T) {
	for _, x := range []struct {
		s      string
		within []int
		e      api.Errno
	}{
		{"(const 5)", nil, api.OK},
		{"(const (a \"s\" #\\c . #(#t)))", nil, api.OK},
		{"(const a^1)", nil, api.ErrCore},
		{"(const (b (a^1)))", nil, api.ErrCore},
		{"(const (b . a^1))", nil, api.ErrCore},
		{"(const #(b a^1))", nil, api.ErrCore},
		{"(global car)", nil, api.OK},
		{"(global 1)", nil, api.ErrCore},
		{"(lambda (1) (call (global car) (local 1)))", nil, api.OK},
		{"(local 1)", nil, api.ErrCore},
		{"(local 1)", []int{1}, api.OK},
		{"(local 1)", []int{2}, api.ErrCore},
		{"(local 1)", []int{3, 2, 1, 2}, api.OK},
		{"(local 0)", []int{0}, api.ErrCore},
		{"(local -1)", []int{-1}, api.ErrCore},
		{"(set 1 (const 5))", []int{1}, api.OK},
		{"(set 1 (const 5))", nil, api.ErrCore},
		{"(set 0 (const 5))", []int{0}, api.ErrCore},
		{"(set 1 (local 2))", []int{1}, api.ErrCore},
		{"(set 1 (set 2 (local 1)))", []int{2, 1}, api.OK},
		{"(assign a (const 5))", nil, api.OK},
		{"(define a (const 5))", nil, api.OK},
		{"(if (const 1) (const 2) (const 3))", nil, api.OK},
		{"(if (const 1) (const 2))", nil, api.ErrCore},
		{"(if (const 1) (const 2) (const 3) (const 4))", nil, api.ErrCore},
		{"(seq)", nil, api.ErrCore},
		{"(call)", nil, api.ErrCore},
		{"(seq (const 1))", nil, api.OK},
		{"(call (const 1))", nil, api.OK},
		{"(lambda () (const 1))", nil, api.OK},
		{"(lambda* () (const 1))", nil, api.ErrCore},
		{"(lambda* (1) (local 1))", nil, api.OK},
		{"(lambda (1) (const 1) (const 2))", nil, api.ErrCore},
		{"(lambda (1))", nil, api.ErrCore},
		{"(lambda (1 1) (const 1))", nil, api.ErrCore},
		{"(lambda (1 2 1) (const 1))", nil, api.ErrCore},
		{"(lambda (0) (const 1))", nil, api.ErrCore},
		{"(lambda (1 -1) (const 1))", nil, api.ErrCore},

		// Used outside of the CoLambda that binds it.
		{"(seq (lambda (1) (local 1)) (local 1))", nil, api.ErrCore},
		{"(seq (local 1) (lambda (1) (local 1)))", nil, api.ErrCore},
		{"(call (lambda (1) (lambda (2) (local 1))) (lambda (3) (local 2)))", nil, api.ErrCore},
		{"(call (lambda (1) (call (lambda (2) (local 2)) (local 1))) (lambda (3) (local 3)))", nil, api.OK},
		{"(lambda (1) (call (lambda (2) (local 2)) (local 2)))", nil, api.ErrCore},
		{"(lambda (1) (seq (lambda (2 3) (seq (local 3) (local 2))) (local 1) (set 1 (local 1))))", nil, api.OK},
		{"(set 1 (lambda (1) (local 1)))", nil, api.ErrCore},

		// Bound twice; bound and in within.
		{"(lambda (1) (lambda (1) (const 1)))", nil, api.ErrCore},
		{"(lambda (1) (lambda (2) (lambda (3 1) (const 1))))", nil, api.ErrCore},
		{"(seq (lambda (1) (local 1)) (lambda (1) (local 1)))", nil, api.ErrCore},
		{"(seq (lambda (1) (lambda (2) (local 2))) (lambda (2) (local 2)))", nil, api.ErrCore},
		{"(seq (lambda (1) (local 1)) (lambda (2) (local 2)))", nil, api.OK},
		{"(lambda (1) (local 1))", []int{1}, api.ErrCore},
		{"(lambda (1 2) (local 1))", []int{2}, api.ErrCore},
		{"(seq (local 2) (lambda (1) (lambda (2) (local 1))))", []int{2}, api.ErrCore},
		{"(lambda (1) (local 2))", []int{2, 3}, api.OK},
	} {
		if got := core.Check(e(x.s), x.within...); got != x.e {
			t.Errorf("Check(%s, %v): %d, not %d", x.s, x.within, got, x.e)
		}
		holds(t, e(x.s), x.within)
	}
}

// P7.1: a CoDefine in each position.
func TestDefine(t *testing.T) {
	for s, want := range map[string]api.Errno{
		"(define a (const 1))":                                           api.OK,
		"(seq (define a (const 1)))":                                     api.OK,
		"(seq (const 1) (define a (const 1)) (define a (const 1)))":      api.OK,
		"(seq (seq (seq (const 1) (define a (const 1)))))":               api.OK,
		"(define a (define b (const 1)))":                                api.ErrCore,
		"(define a (seq (define b (const 1))))":                          api.ErrCore,
		"(seq (define a (seq (define b (const 1)))))":                    api.ErrCore,
		"(assign a (define b (const 1)))":                                api.ErrCore,
		"(lambda () (define b (const 1)))":                               api.ErrCore,
		"(lambda () (seq (define b (const 1))))":                         api.ErrCore,
		"(call (define b (const 1)))":                                    api.ErrCore,
		"(call (seq (define b (const 1))))":                              api.ErrCore,
		"(seq (call (global a) (define b (const 1))))":                   api.ErrCore,
		"(if (define a (const 1)) (const 1) (const 1))":                  api.ErrCore,
		"(if (const 1) (define a (const 1)) (const 1))":                  api.ErrCore,
		"(if (const 1) (const 1) (define a (const 1)))":                  api.ErrCore,
		"(seq (if (const 1) (seq (define a (const 1))) (const 1)))":      api.ErrCore,
		"(seq (seq (call (const 1))) (seq (call (define a (const 1)))))": api.ErrCore,
		"(seq (call (const 1)) (seq (seq (define a (const 1)))))":        api.OK,
	} {
		if got := core.Check(e(s)); got != want {
			t.Errorf("Check(%s): %d, not %d", s, got, want)
		}
		holds(t, e(s))
	}
	inner := set(1, define("a", constant(num(1))))
	if core.Check(inner, 1) != api.ErrCore || core.Check(lambda(inner, 1)) != api.ErrCore || core.Free(inner) != nil {
		t.Error("a CoDefine in a CoSet")
	}
}

// P7.1: every field that is not mentioned is 0 or empty, and every one that is mentioned is as it has to be.
func TestFields(t *testing.T) {
	one := constant(num(1))
	for _, c := range []api.Core{
		one, local(1), global("a"), set(1, one), define("a", one), {K: api.CoAssign, S: "a", L: []api.Core{one}},
		{K: api.CoIf, L: many(3, one)}, lambda(one, 5), lambda(one), seq(one), call(one),
	} {
		holds(t, with(c, func(c *api.Core) { c.P = append([]int{}, c.P...) }), []int{1})
		for k := -2; k <= 12; k++ {
			holds(t, with(c, func(c *api.Core) { c.K = k }), []int{1})
		}
		for _, n := range []int64{-1, 0, 1, 2, 1 << 20, 1<<20 + 1, 1<<32 + 1, 1<<63 - 1, -1 << 63} {
			holds(t, with(c, func(c *api.Core) { c.N = n }), []int{1})
		}
		for _, s := range []string{"", "a", "1", "a b", "...", "-a"} {
			holds(t, with(c, func(c *api.Core) { c.S = s }), []int{1})
		}
		for _, x := range []api.Datum{
			{}, num(1), {K: 9}, {N: 1}, {S: "a"}, {M: []int{1}}, {M: []int{}, L: []api.Datum{}, T: []api.Datum{}}, sym("a"), sym("a", 1), list(sym("a", 1)),
			{L: many1(1)}, {T: many1(1)}, {K: api.DDot, L: many1(1), T: []api.Datum{sym("a", 2)}},
		} {
			holds(t, with(c, func(c *api.Core) { c.D = x }), []int{1})
		}
		for _, p := range [][]int{nil, {}, {1}, {2}, {2, 3}, {2, 2}, {0}, {-1}, {1 << 20}, {1<<20 + 1}, {1<<32 + 2}} {
			holds(t, with(c, func(c *api.Core) { c.P = p }), []int{1})
		}
		for n := range 5 {
			holds(t, with(c, func(c *api.Core) { c.L = many(n, one) }), []int{1})
			holds(t, with(c, func(c *api.Core) { c.L = append(many(n, one), api.Core{}) }), []int{1})
		}
	}
}

func many1(n int64) []api.Datum { return []api.Datum{num(n)} }

// P7.2: Same is for valid and for invalid expressions.
func TestSame(t *testing.T) {
	one := constant(num(1))
	invalid := []api.Datum{{K: 9}, {N: 1}, {S: "a"}, {M: []int{1}}, {L: many1(1)}, {T: many1(1)}, {K: api.DBool, N: 2}}
	l := []api.Core{
		{}, {K: 99}, {K: -1}, {K: 99, N: 1}, {K: 99, S: "?"}, {K: 99, P: []int{1, 1}}, {K: 99, P: []int{1}}, {K: 99, P: []int{0}}, {K: 99, L: []api.Core{{}}},
		{K: 99, L: []api.Core{{}, {}}}, {K: 99, L: []api.Core{{}, {N: 1}}}, {K: 99, L: []api.Core{{N: 1}, {}}}, {D: num(1)}, {D: num(2)}, {D: sym("a")}, {D: sym("a", 1)},
		one, constant(list()), constant(list(num(1))), constant(api.Datum{}), {K: api.CoConst, D: num(1), L: []api.Core{one}}, local(1), local(2), global("a"), global("b"),
		{K: api.CoGlobal, S: "a", D: num(1)}, lambda(one), lambda(one, 1), lambda(one, 2), lambda(one, 1, 2), lambda(one, 2, 1), lambda(lambda(one, 1), 1), seq(one), seq(one, one), call(one), seq(),
	}
	for i, a := range l {
		for j, b := range l {
			if got := core.Same(a, b); got != (i == j) {
				t.Errorf("Same of %d and %d: %t", i, j, got)
			}
		}
		for _, x := range invalid {
			bad := with(a, func(c *api.Core) { c.D = x })
			if core.Same(bad, bad) || core.Same(bad, a) || core.Same(a, bad) || core.Same(seq(a, bad), seq(a, bad)) {
				t.Errorf("Same of %d with data that are invalid", i)
			}
		}
	}
	empty := api.Core{K: 99, D: api.Datum{M: []int{}, L: []api.Datum{}, T: []api.Datum{}}, P: []int{}, L: []api.Core{}}
	if !core.Same(empty, api.Core{K: 99}) || !core.Same(api.Core{K: 99}, empty) {
		t.Error("Same: a nil slice and an empty one")
	}
}

// P7.2: Alike.
func TestAlike(t *testing.T) {
	for _, x := range []struct {
		a, b string
		is   bool
	}{
		{"(lambda (1) (call (global car) (local 1)))", "(lambda (2) (call (global car) (local 2)))", true},
		{"(lambda (1) (local 1))", "(lambda (1048576) (local 1048576))", true},
		{"(lambda (1 2) (call (local 1) (local 2)))", "(lambda (2 1) (call (local 2) (local 1)))", true},
		{"(lambda (1 2) (call (local 1) (local 2)))", "(lambda (2 1) (call (local 1) (local 2)))", false},
		{"(lambda (1) (lambda (2) (local 1)))", "(lambda (2) (lambda (1) (local 2)))", true},
		{"(lambda (1) (lambda (2) (local 1)))", "(lambda (1) (lambda (2) (local 2)))", false},
		{"(lambda (1 2) (set 1 (local 2)))", "(lambda (8 9) (set 8 (local 9)))", true},
		{"(lambda (1 2) (set 1 (local 2)))", "(lambda (8 9) (set 9 (local 8)))", false},
		{"(lambda (1 2) (set 1 (local 1)))", "(lambda (8 9) (set 8 (local 9)))", false},
		{"(lambda (1 2) (const 1))", "(lambda (1) (const 1))", false},
		{"(lambda* (1) (local 1))", "(lambda* (2) (local 2))", true},
		{"(lambda* (1) (local 1))", "(lambda (1) (local 1))", false},
		{"(seq (lambda (1) (local 1)) (lambda (2) (local 2)))", "(seq (lambda (2) (local 2)) (lambda (1) (local 1)))", true},
		{"(lambda (1) (global a))", "(lambda (1) (global b))", false},
		{"(define a (const 1))", "(define a (const 1))", true},
		{"(define a (const 1))", "(define b (const 1))", false},
		{"(define a (const 1))", "(assign a (const 1))", false},
		{"(const (1 a))", "(const (1 a))", true},
		{"(const (1 a))", "(const (1 b))", false},
		{"(const 1)", "(const 2)", false},
		{"(seq (const 1))", "(call (const 1))", false},
		{"(seq (const 1))", "(seq (const 1) (const 1))", false},

		// An invalid one is alike with none.
		{"(local 1)", "(local 1)", false},
		{"(local 1)", "(local 2)", false},
		{"(lambda (1) (lambda (1) (local 1)))", "(lambda (1) (lambda (1) (local 1)))", false},
		{"(lambda (1) (lambda (1) (local 1)))", "(lambda (1) (lambda (2) (local 2)))", false},
		{"(lambda (1) (lambda (2) (local 2)))", "(lambda (1) (lambda (1) (local 1)))", false},
		{"(seq)", "(seq)", false},
	} {
		if core.Alike(e(x.a), e(x.b)) != x.is || core.Alike(e(x.b), e(x.a)) != x.is {
			t.Errorf("Alike(%s, %s) isn't %t", x.a, x.b, x.is)
		}
	}
}

// P7.3: what is open, and what an expression that isn't answers.
func TestOpen(t *testing.T) {
	for _, x := range []struct {
		s       string
		free    []int
		set     []int
		globals []string
	}{
		{"(lambda (1 2) (seq (set 1 (local 2)) (call (lambda* (3) (local 1)) (local 7))))", []int{7}, []int{1}, nil},
		{"(seq (local 9) (local 3) (set 9 (local 5)) (set 2 (const 1)))", []int{2, 3, 5, 9}, []int{2, 9}, nil},
		{"(seq (set 10 (global b)) (set 9 (global a)) (set 10 (global b)) (local 1048576))", []int{9, 10, 1048576}, []int{9, 10}, []string{"a", "b"}},
		{"(seq (assign b (global a)) (define c (const a)))", nil, nil, []string{"a", "b", "c"}},
		{"(seq (global b) (global B) (global aa) (global a) (global ...) (global ~) (global b))", nil, nil, []string{"...", "B", "a", "aa", "b", "~"}},
		{"(const d)", nil, nil, nil},
		{"(lambda (4) (lambda (3) (seq (local 4) (local 3) (local 2))))", []int{2}, nil, nil},
		{"(call (lambda (4) (set 4 (local 4))) (lambda (3) (set 3 (set 5 (local 3)))))", []int{5}, []int{3, 4, 5}, nil},

		// Not open: free here, bound there.
		{"(seq (local 1) (set 2 (global a)) (lambda (1) (const 1)))", nil, nil, nil},
		{"(seq (set 2 (global a)) (lambda (1) (local 1)) (local 1))", nil, nil, nil},
		{"(seq (set 2 (global a)) (lambda (1 2) (local 1)))", nil, nil, nil},
		{"(set 1 (lambda (1) (global a)))", nil, nil, nil},
		{"(lambda (1) (call (lambda (2) (set 1 (global a))) (local 2)))", nil, nil, nil},
		// Not open: bound twice, or otherwise invalid.
		{"(lambda (1) (lambda (1) (set 1 (global a))))", nil, nil, nil},
		{"(seq (set 1 (global a)) (seq))", nil, nil, nil},
		{"(call (set 1 (global a)) (define b (const 1)))", nil, nil, nil},
	} {
		c := e(x.s)
		if got := core.Free(c); !slices.Equal(got, x.free) {
			t.Errorf("Free(%s): %v", x.s, got)
		}
		if got := core.Set(c); !slices.Equal(got, x.set) {
			t.Errorf("Set(%s): %v", x.s, got)
		}
		if got := core.Globals(c); !slices.Equal(got, x.globals) {
			t.Errorf("Globals(%s): %q", x.s, got)
		}
		holds(t, c, []int{1}, []int{7})
	}
}

// P7.3: All yields the nodes in order, and may be left.
func TestAll(t *testing.T) {
	s := "(seq (lambda (1) (if (local 1) (global a) (const (x)))) (call (const 1) (local 2)))"
	want := []string{
		s, "(lambda (1) (if (local 1) (global a) (const (x))))", "(if (local 1) (global a) (const (x)))", "(local 1)", "(global a)", "(const (x))",
		"(call (const 1) (local 2))", "(const 1)", "(local 2)",
	}
	var got []string
	nodes := core.All(e(s))
	for range 2 { // it may be gone through again
		got = nil
		for c := range nodes {
			got = append(got, text(c))
		}
		if !slices.Equal(got, want) {
			t.Errorf("All: %q", got)
		}
	}
	for stop := range len(want) {
		seen := 0
		for range nodes {
			if seen++; seen > stop {
				break
			}
		}
		if seen != stop+1 {
			t.Errorf("All, left behind %d: %d", stop+1, seen)
		}
	}
	for c := range core.All(e("(seq (local 1) (lambda (1) (const 1)))")) {
		t.Errorf("All of one that isn't open yields %s", text(c))
	}
}

// P7.4: how expressions are written.
func TestDatum(t *testing.T) {
	one := constant(num(1))
	for _, x := range []struct {
		c api.Core
		s string
	}{
		{one, "(const 1)"},
		{constant(d("(a \"b\" #\\c #(#f ()) . -5)")), "(const (a \"b\" #\\c #(#f ()) . -5))"},
		{local(7), "(local 7)"},
		{global("car"), "(global car)"},
		{set(2, one), "(set 2 (const 1))"},
		{api.Core{K: api.CoAssign, S: "a", L: []api.Core{one}}, "(assign a (const 1))"},
		{define("lambda", one), "(define lambda (const 1))"},
		{api.Core{K: api.CoIf, L: []api.Core{one, local(2), global("if")}}, "(if (const 1) (local 2) (global if))"},
		{lambda(one), "(lambda () (const 1))"},
		{lambda(local(3), 5, 3, 4), "(lambda (5 3 4) (local 3))"},
		{with(lambda(local(3), 5, 3, 4), func(c *api.Core) { c.N = 1 }), "(lambda* (5 3 4) (local 3))"},
		{seq(one, seq(one)), "(seq (const 1) (seq (const 1)))"},
		{call(global("f"), one), "(call (global f) (const 1))"},
	} {
		got, f := core.Datum(x.c)
		if f != api.OK || !equalDatum(got, d(x.s)) {
			t.Errorf("Datum of %s: %d, or another datum", x.s, f)
		}
		back, f := core.Of(d(x.s))
		if f != api.OK || !equal(back, x.c) {
			t.Errorf("Of(%s): %s, %d", x.s, text(back), f)
		}
		holds(t, x.c)
	}
}

// P7.4: Datum's errors: what Check finds, apart from the scope; then that it isn't open; then what is wrong with the list.
func TestDatumErrors(t *testing.T) {
	clash := seq(local(1), lambda(constant(num(1)), 1))
	for _, x := range []struct {
		what string
		c    api.Core
		e    api.Errno
	}{
		{"invalid", seq(), api.ErrCore},
		{"invalid constant", constant(sym("a", 1)), api.ErrCore},
		{"no datum in a constant", constant(api.Datum{}), api.ErrCore},
		{"free", seq(local(1), local(2)), api.OK},
		{"free and bound", clash, api.ErrCore},
		{"bound twice", lambda(lambda(local(1), 1), 1), api.ErrCore},
		{"too deep", nest(128, local(1)), api.ErrDeep},
		{"too deep behind what is free and bound", seq(clash, nest(127, local(1))), api.ErrDeep},
		{"too many behind what is free and bound", seq(append([]api.Core{clash}, many(8192, local(2))...)...), api.ErrLong},
		{"free and bound, and too deep a list", seq(clash, nest(100, local(2))), api.ErrCore},
		{"free and bound, and too long a list", seq(append([]api.Core{clash}, many(8000, local(2))...)...), api.ErrCore},
		{"too deep a list", nest(100, local(1)), api.ErrDeep},
		{"too long a list", seq(many(8000, local(1))...), api.ErrLong},
		{"too deep ahead of too long a list", seq(append([]api.Core{nest(100, local(1))}, many(8000, local(1))...)...), api.ErrDeep},
		{"too long ahead of too deep a list", seq(append(many(8000, local(1)), nest(100, local(1)))...), api.ErrLong},
	} {
		got, f := core.Datum(x.c)
		if f != x.e || f != api.OK && !equalDatum(got, api.Datum{}) {
			t.Errorf("Datum of one that is %s: %d, not %d, or something beside it", x.what, f, x.e)
		}
		holds(t, x.c)
	}
}

// P7.4: data of which Of makes no expression.
func TestOfErrors(t *testing.T) {
	for _, s := range []string{
		"x", "()", "5", "\"const\"", "#(const 1)", "(const . 1)", "(const 1 . 2)", "const", "((const 1))", "(foo 1)", "(const^1 1)", "(Const 1)", "(quote 1)", "(\"const\" 1)", "(() (const 1))",
		"(const)", "(const a b)", "(const 1 (const 2))", "(const a^1)", "(const (1 #(a^1)))",
		"(local)", "(local x)", "(local 0)", "(local -1)", "(local 1048577)", "(local 4294967297)", "(local 1 2)", "(local (1))", "(local #t)", "(local #\\a)", "(local 1 (local 1))",
		"(global)", "(global 1)", "(global a b)", "(global a^1)", "(global \"a\")", "(global a (global a))", "(global (a))", "(global ())",
		"(set)", "(set 1)", "(set x (const 1))", "(set 0 (const 1))", "(set 1 (const 1) (const 2))", "(set 1 2)", "(set 1048577 (const 1))", "(set #t (const 1))",
		"(assign)", "(assign a)", "(assign 1 (const 1))", "(assign a^1 (const 1))", "(assign a (const 1) (const 1))", "(assign a b)",
		"(define)", "(define a)", "(define 1 (const 1))", "(define a^1 (const 1))", "(define a (const 1) (const 1))", "(define a 5)", "(define \"a\" (const 1))",
		"(if)", "(if (const 1))", "(if (const 1) (const 2))", "(if (const 1) (const 2) (const 3) (const 4))", "(if 1 2 3)",
		"(lambda)", "(lambda (1))", "(lambda 1 (const 1))", "(lambda (1) (const 1) (const 2))", "(lambda (x) (const 1))", "(lambda (1 . 2) (const 1))", "(lambda #(1) (const 1))", "(lambda (0) (const 1))",
		"(lambda (1 1) (const 1))", "(lambda (1) 1)", "(lambda (1048577) (const 1))", "(lambda ((1)) (const 1))", "(lambda (#t) (const 1))", "(lambda () )", "(lambda^1 (1) (const 1))",
		"(lambda* () (const 1))", "(lambda*)", "(lambda* (1))", "(lambda* 1 (const 1))", "(lambda*^1 (1) (const 1))", "(lambda* (1 1) (const 1))",
		"(seq)", "(seq 1)", "(seq (const 1) . (2))", "(call)", "(call 1)", "(call (define x (const 1)))", "(seq (seq))", "(seq #((const 1)))", "(seq (const 1) . 5)", "(call (const 1) . #t)",
		"(lambda (1) (lambda (1) (const 1)))", "(seq (local 1) (lambda (1) (const 1)))", "(set 1 (lambda (1) (const 1)))", "(lambda () (define x (const 1)))",
	} {
		if got, f := core.Of(d(s)); f != api.ErrCore || !none(got) {
			t.Errorf("Of(%s): %s, %d", s, text(got), f)
		}
		if datum.Check(d(s)) != api.OK {
			t.Errorf("%s should be a valid datum", s)
		}
		holdsOf(t, d(s))
	}
	for _, s := range []string{"(local 1048576)", "(lambda (1048576 1) (local 1))", "(seq (local 3) (lambda (1) (set 2 (local 1))))", "(global lambda*)", "(const const)", "(const (const 1 2))"} {
		if !holdsOf(t, d(s)) {
			t.Errorf("%s should be an expression", s)
		}
	}
}

// P7.4: Of answers datum.Check's error of an invalid datum.
func TestOfInvalid(t *testing.T) {
	deep := num(1)
	for range 70 {
		deep = list(sym("seq"), deep)
	}
	for _, x := range []struct {
		d api.Datum
		e api.Errno
	}{
		{api.Datum{}, api.ErrDatum},
		{list(sym("const"), api.Datum{}), api.ErrDatum},
		{list(sym("const"), api.Datum{K: api.DBool, N: 2}), api.ErrDatum},
		{list(sym("local"), num(1<<60)), api.ErrDatum},
		{list(sym("global"), sym("a b")), api.ErrDatum},
		{list(sym("foo"), sym("a", 0)), api.ErrDatum},
		{api.Datum{K: api.DList, N: 1, L: []api.Datum{sym("const"), num(1)}}, api.ErrDatum},
		{deep, api.ErrDeep},
		{list(append([]api.Datum{sym("seq")}, slices.Repeat([]api.Datum{list(sym("const"), num(1))}, 1400)...)...), api.ErrLong},
		{list(sym("foo"), deep), api.ErrDeep},
	} {
		if got, f := core.Of(x.d); f != x.e || !none(got) {
			t.Errorf("Of of an invalid datum: %d, not %d", f, x.e)
		}
		holdsOf(t, x.d)
	}
}
