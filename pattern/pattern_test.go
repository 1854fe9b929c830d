package pattern_test

import (
	"slices"
	"strconv"
	"strings"
	"testing"

	"shuttle/api"
	"shuttle/datum"
	"shuttle/pattern"
)

// show writes bindings: x=1 for a datum, x=[1 2] for a row, x:1=[] for a row with nothing in it, with its depth.
func show(got []api.Got) string {
	var inner func(g api.Got) string
	inner = func(g api.Got) string {
		if g.Deep == 0 {
			return text(g.D)
		}
		var l []string
		for _, x := range g.L {
			l = append(l, inner(x))
		}
		return "[" + strings.Join(l, " ") + "]"
	}
	var l []string
	for _, g := range got {
		name := text(g.ID)
		if g.Deep > 0 && len(g.L) == 0 {
			name += ":" + strconv.Itoa(g.Deep)
		}
		l = append(l, name+"="+inner(g))
	}
	return strings.Join(l, ", ")
}

// depthsOf writes variables with their depths.
func depthsOf(vars []api.Got) string {
	var l []string
	for _, g := range vars {
		l = append(l, text(g.ID)+":"+strconv.Itoa(g.Deep))
	}
	return strings.Join(l, " ")
}

// is binds a symbol to a datum, in a row to what such are.
func is(id string, x string) api.Got                { return api.Got{ID: d(id), D: d(x)} }
func row(id string, deep int, l ...api.Got) api.Got { return api.Got{ID: d(id), Deep: deep, L: l} }

func nums(id string, n ...int64) api.Got {
	g := row(id, 1)
	for _, x := range n {
		g.L = append(g.L, api.Got{ID: d(id), D: num(x)})
	}
	return g
}

// P6.1: variables by hand: in the order of the nodes, each as deep as there are repeated elements with it in them.
func TestVarsByHand(t *testing.T) {
	for _, x := range []struct{ lits, pat, want string }{
		{"", "a", "a:0"},
		{"", "()", ""},
		{"", "#()", ""},
		{"", "1", ""},
		{"", "(1 \"a\" #\\a #t)", ""},
		{"", "_", ""},
		{"", "(_ _ (_ ...))", ""},
		{"", "(b a)", "b:0 a:0"},
		{"", "(b (d) a . c)", "b:0 d:0 a:0 c:0"},
		{"", "(a ...)", "a:1"},
		{"", "#(a ...)", "a:1"},
		{"", "(a b ... c)", "a:0 b:1 c:0"},
		{"", "(a (b c ...) ... (d ...))", "a:0 b:1 c:2 d:1"},
		{"", "(((((a ...) b ...) ...) ...) c)", "a:3 b:3 c:0"},
		{"", "(#(a ...) . b)", "a:1 b:0"},
		{"", "((a . b) ... c)", "a:1 b:1 c:0"},
		{"", "(a dots^1 b ... )", "error 60"},
		{"", "(a dots^1^2 b)", "a:1 b:0"},
		{"", "(_^1 a _^2 ...)", "a:0"},
		{"", "(a a^1 a^2 a^1^2 a^2^1)", "a:0 a^1:0 a^2:0 a^1^2:0 a^2^1:0"},
		{"", "(a b c^1 c^1)", "error 60"},
		{"", "(a b . a)", "error 60"},
		{"", "((a ...) a)", "error 60"},
		{"else =>", "(else a => b)", "a:0 b:0"},
		{"else =>", "(else a => b else ...)", "a:0 b:0"},
		{"else else", "(else else else)", ""},
		{"else", "(else^1 a)", "else^1:0 a:0"},
		{"else^1", "(else^1 else)", "else:0"},
		{"a", "a", ""},
		{"a", "(a a a ...)", ""},
		{"", "...", "error 60"},
		{"", "dots^3", "error 60"},
		{"", "(...)", "error 60"},
		{"", "#(...)", "error 60"},
		{"", "(... a)", "error 60"},
		{"", "(... ...)", "error 60"},
		{"", "(a ... ...)", "error 60"},
		{"", "(a ... b ...)", "error 60"},
		{"", "#(a ... b ...)", "error 60"},
		{"", "(a . ...)", "error 60"},
		{"", "(a ... . b)", "error 60"},
		{"", "(a b ... . c)", "error 60"},
		{"", "((a ... . b) c)", "error 60"},
		{"", "((a ...) ... (b ...) c)", "a:2 b:1 c:0"},
		{"", "((a ...) b ...)", "a:1 b:1"},
		{"", "(_ ... _)", ""},
		{"", "(1 ... a)", "a:0"},
		{"else", "(else ... a)", "a:0"},
		{"if", "(set! if x)", "set!:0 x:0"},
		{"", "(a \"...\" b \"_\" c)", "a:0 b:0 c:0"}, // strings are neither ellipses nor wildcards
		{"", "(\"...\" a ... \"...\")", "a:1"},
	} {
		vars, e := pattern.Vars(ds(x.lits), d(x.pat))
		got := depthsOf(vars)
		if e != api.OK {
			got = "error " + strconv.Itoa(int(e))
			if len(vars) > 0 {
				t.Errorf("%s: variables beside an error", x.pat)
			}
		}
		if got != x.want {
			t.Errorf("(%s) %s: %s, not %s", x.lits, x.pat, got, x.want)
		}
		for _, g := range vars {
			if !none(g.D) || len(g.L) > 0 {
				t.Errorf("%s: %v", x.pat, g)
			}
		}
	}
}

// wrong are data that are invalid, with Check's error; each call makes them anew.
func wrong() map[string]api.Datum {
	deep, round := sym("x"), list(sym("x"))
	for range 100 {
		deep = list(deep)
	}
	round.L[0] = round
	return map[string]api.Datum{
		"no kind":      {},
		"a symbol":     sym("1"),
		"a mark":       sym("x", 0),
		"marks":        sym("x", slices.Repeat([]int{1}, 17)...),
		"within":       list(sym("x"), list(sym("y"), api.Datum{K: 9})),
		"a field":      {K: api.DList, N: 1, L: []api.Datum{sym("x"), sym("y")}},
		"an ellipsis":  list(sym("x"), sym("...", -1)),
		"a wildcard":   list(sym("x"), sym("_", 1<<20+1)),
		"too deep":     deep,
		"no end":       round,
		"too many":     list(slices.Repeat([]api.Datum{num(1)}, 4096)...),
		"no tail":      {K: api.DDot, L: []api.Datum{sym("x")}},
		"no elements":  {K: api.DDot, T: []api.Datum{sym("x")}},
		"a list's end": dot(list(), sym("x")),
	}
}

// noLits are lists that are no literals; each call makes them anew.
func noLits() [][]api.Datum {
	l := [][]api.Datum{ds("..."), ds("_"), ds("dots^1"), ds("_^1"), ds("else ..."), ds("else _ =>"), ds("1"), ds("else (else)"), ds("else #(a)"), ds("\"else\""), ds("#\\e"), ds("#t"), ds("(else . a)")}
	for _, x := range wrong() {
		l = append(l, []api.Datum{x}, []api.Datum{sym("else"), x})
	}
	return l
}

// P6.1, R1: which error of Vars comes first: the pattern's own, the literals', what makes it no pattern.
func TestVarsErrors(t *testing.T) {
	noPattern := []api.Datum{d("(... a)"), d("(a a)"), d("...")}
	for _, lits := range noLits() {
		for _, pat := range append(noPattern, d("(a b)"), d("()")) {
			if vars, e := pattern.Vars(lits, pat); e != api.ErrArg || len(vars) > 0 {
				t.Errorf("Vars(%s, %s): %s, %d", textOf(lits), text(pat), depthsOf(vars), int(e))
			}
		}
		for what, pat := range wrong() {
			if vars, e := pattern.Vars(lits, pat); e != datum.Check(pat) || e == api.OK || len(vars) > 0 {
				t.Errorf("Vars(%s, %s): %s, %d", textOf(lits), what, depthsOf(vars), int(e))
			}
		}
	}
	for _, pat := range noPattern {
		if vars, e := pattern.Vars(nil, pat); e != api.ErrPat || len(vars) > 0 {
			t.Errorf("Vars(%s): %s, %d", text(pat), depthsOf(vars), int(e))
		}
	}
}

// P6.1: Check by hand.
func TestCheckByHand(t *testing.T) {
	for _, x := range []struct {
		pat, tmpl string
		e         api.Errno
	}{
		{"(_)", "1", api.OK},
		{"(_ a)", "a", api.OK},
		{"(... a)", "a", api.OK}, // the name is ignored
		{"((a a) a)", "a", api.OK},
		{"(a a)", "a", api.OK},
		{"(else a)", "a", api.OK},
		{"(_ . a)", "a", api.OK},
		{"(_ . else)", "1", api.OK},
		{"(_ . 5)", "1", api.OK},
		{"(_ . ...)", "1", api.ErrPat},
		{"(_ ... a)", "1", api.ErrPat},
		{"()", "1", api.ErrPat},
		{"#(_ a)", "1", api.ErrPat},
		{"a", "1", api.ErrPat},
		{"_", "1", api.ErrPat},
		{"...", "1", api.ErrPat},
		{"5", "1", api.ErrPat},
		{"(_ a a)", "...", api.ErrPat},
		{"(_ a)", "...", api.ErrTmpl},
		{"(_ a)", "dots^2", api.ErrTmpl},
		{"(_ a)", "(...)", api.ErrTmpl},
		{"(_ a)", "(... a)", api.ErrTmpl},
		{"(_ a)", "#(... a)", api.ErrTmpl},
		{"(_ a)", "(... . a)", api.ErrTmpl},
		{"(_ a)", "(a . ...)", api.ErrTmpl},
		{"(_ a ...)", "(a . ...)", api.ErrTmpl},
		{"(_ a ...)", "(a ... ...)", api.ErrTmpl},
		{"(_ (a ...) ...)", "(a ... ...)", api.ErrTmpl},
		{"(_ (a ...) ...)", "((a ...) ...)", api.OK},
		{"(_ a ...)", "(a ...)", api.OK},
		{"(_ a ...)", "(a dots^7)", api.OK},
		{"(_ a ...)", "#(a ...)", api.OK},
		{"(_ a ...)", "(a ... . b)", api.OK}, // in a template, unlike in a pattern
		{"(_ a ...)", "(a ... a ... 5 a ...)", api.OK},
		{"(_ a ...)", "((a 5) ...)", api.OK},
		{"(_ a ...)", "((a a) ...)", api.OK},
		{"(_ a ... b)", "((a b) ...)", api.OK},
		{"(_ a ... b)", "(b ...)", api.ErrTmpl},
		{"(_ a ... b)", "((b) ...)", api.ErrTmpl},
		{"(_ a ... b)", "((b ... a) ...)", api.ErrTmpl},
		{"(_ a ...)", "(5 ...)", api.ErrTmpl},
		{"(_ a ...)", "(() ...)", api.ErrTmpl},
		{"(_ a ...)", "(c ...)", api.ErrTmpl},
		{"(_ a ...)", "a", api.ErrTmpl},
		{"(_ a ...)", "(a)", api.ErrTmpl},
		{"(_ a ...)", "(a ... a)", api.ErrTmpl},
		{"(_ a ...)", "(a ... . a)", api.ErrTmpl},
		{"(_ a ...)", "((a ...) ...)", api.ErrTmpl},
		{"(_ a ...)", "((a a ...) ...)", api.ErrTmpl},
		{"(_ (a ...) ...)", "(a ...)", api.ErrTmpl},
		{"(_ (a ...) ...)", "((a) ...)", api.ErrTmpl},
		{"(_ (a ...) ...)", "((a ... a) ...)", api.ErrTmpl},
		{"(_ (a b ...) ...)", "((a b ...) ...)", api.OK},
		{"(_ (a b ...) ...)", "(((a b) ...) ...)", api.OK},
		{"(_ (a b ...) ...)", "((b ... a ...) ...)", api.ErrTmpl},
		{"(_ (a b ...) ...)", "((a ...) b ...)", api.ErrTmpl},
		{"(_ (a b ...) ...)", "(((a ...) b ...) ...)", api.ErrTmpl},
		{"(_ (a b ...) ...)", "(a ... (b ...) ...)", api.OK},
		{"(_ a ... (b ...))", "((a b) ...)", api.OK},
		{"(_ a ... b)", "(_ ...)", api.ErrTmpl}, // a wildcard is no variable
		{"(_ a ... b)", "(_ a ...)", api.OK},
		{"(_ else b ...)", "(else ...)", api.ErrTmpl}, // neither is a literal
		{"(_ else b ...)", "(else b ...)", api.OK},
		{"(_ a^1 ...)", "(a ...)", api.ErrTmpl},
		{"(_ a^1 ...)", "(a^1 ... a)", api.OK},
	} {
		if e := pattern.Check(ds("else"), api.Rule{Pat: d(x.pat), Tmpl: d(x.tmpl)}); e != x.e {
			t.Errorf("%s, %s: %d, not %d", x.pat, x.tmpl, int(e), int(x.e))
		}
	}
}

// P6.1, R1: which error of Check comes first.
func TestCheckErrors(t *testing.T) {
	noTmpl := d("(5 ...)")
	hold := func(what string, lits []api.Datum, pat, tmpl api.Datum, want api.Errno) {
		t.Helper()
		if e := pattern.Check(lits, api.Rule{Pat: pat, Tmpl: tmpl}); e != want || want == api.OK {
			t.Errorf("%s: Check(%s, %s, %s) is %d, not %d", what, textOf(lits), text(pat), text(tmpl), int(e), int(want))
		}
	}
	for what, bad := range wrong() {
		e := datum.Check(bad)
		hold(what, nil, bad, d("a"), e)
		hold(what, ds("_"), bad, noTmpl, e)
		hold(what, ds("_"), d("5"), bad, api.ErrPat)
		hold(what, ds("_"), d("(m a a)"), bad, api.ErrArg)
		hold(what, nil, d("(m a a)"), bad, api.ErrPat)
		hold(what, nil, d("(m a)"), bad, e)
	}
	for _, lits := range noLits() {
		hold("no literals", lits, d("(m a)"), d("a"), api.ErrArg)
		hold("no literals", lits, d("(m a a)"), noTmpl, api.ErrArg)
		hold("no literals", lits, d("()"), noTmpl, api.ErrPat)
		hold("no literals", lits, d("a"), noTmpl, api.ErrPat)
	}
	hold("no pattern", nil, d("(m ...)"), noTmpl, api.ErrPat)
	hold("no template", nil, d("(m a)"), noTmpl, api.ErrTmpl)
}

// P6.2: Match by hand.
func TestMatchByHand(t *testing.T) {
	for _, x := range []struct{ pat, form, want string }{
		{"a", "5", "a=5"},
		{"a", "(1 2)", "a=(1 2)"},
		{"a", "...", "a=..."}, // a form's symbols have no meaning
		{"_", "(1 2)", ""},
		{"_^5", "5", ""},
		{"else", "else", ""},
		{"else", "else^1^2", ""},
		{"else", "other", "no"},
		{"else", "5", "no"},
		{"else", "\"else\"", "no"},
		{"else", "(else)", "no"},
		{"else^1", "5", "else^1=5"},
		{"5", "5", ""},
		{"5", "6", "no"},
		{"5", "a", "no"},
		{"-5", "5", "no"},
		{"\"a\"", "\"a\"", ""},
		{"\"a\"", "\"b\"", "no"},
		{"\"a\"", "a", "no"},
		{"\"_\"", "\"_\"", ""},
		{"\"_\"", "5", "no"},
		{"(a \"...\")", "(1 \"...\")", "a=1"},
		{"(a \"...\")", "(1)", "no"},
		{"#\\a", "#\\a", ""},
		{"#\\a", "#\\b", "no"},
		{"#\\a", "97", "no"},
		{"#t", "#t", ""},
		{"#t", "#f", "no"},
		{"#t", "1", "no"},
		{"()", "()", ""},
		{"()", "#()", "no"},
		{"()", "(1)", "no"},
		{"()", "5", "no"},
		{"#()", "#()", ""},
		{"#()", "()", "no"},
		{"#()", "#(1)", "no"},
		{"(a b)", "(1 2)", "a=1, b=2"},
		{"(a b)", "(1)", "no"},
		{"(a b)", "(1 2 3)", "no"},
		{"(a b)", "(1 2 . 3)", "no"},
		{"(a b)", "(1 . 2)", "no"},
		{"(a b)", "#(1 2)", "no"},
		{"#(a b)", "#(1 2)", "a=1, b=2"},
		{"#(a b)", "(1 2)", "no"},
		{"(a (b) 5)", "(1 (2) 5)", "a=1, b=2"},
		{"(a (b) 5)", "(1 (2) 6)", "no"},
		{"(a (b) 5)", "(1 2 5)", "no"},
		{"(a ...)", "()", "a:1=[]"},
		{"(a ...)", "(1)", "a=[1]"},
		{"(a ...)", "(1 2 3)", "a=[1 2 3]"},
		{"(a ...)", "(1 2 . 3)", "no"},
		{"(a ...)", "#(1 2)", "no"},
		{"(a ...)", "5", "no"},
		{"#(a ...)", "#(1 2)", "a=[1 2]"},
		{"#(a ...)", "(1 2)", "no"},
		{"#(a ...)", "#()", "a:1=[]"},
		{"(a b ...)", "(1)", "a=1, b:1=[]"},
		{"(a b ...)", "()", "no"},
		{"(a ... b)", "(1)", "a:1=[], b=1"},
		{"(a ... b)", "(1 2 3)", "a=[1 2], b=3"},
		{"(a ... b)", "()", "no"},
		{"(a b ... c d)", "(1 2 3)", "a=1, b:1=[], c=2, d=3"},
		{"(a b ... c d)", "(1 2)", "no"},
		{"(a b ... c d)", "(1 2 3 4 5)", "a=1, b=[2 3], c=4, d=5"},
		{"(5 ... a)", "(5 5 6)", "a=6"},
		{"(5 ... a)", "(5 6 6)", "no"},
		{"(5 ... a)", "(5)", "a=5"},
		{"(_ ... a)", "(1 2 3)", "a=3"},
		{"((a b) ...)", "((1 2) (3 4))", "a=[1 3], b=[2 4]"},
		{"((a b) ...)", "((1 2) (3))", "no"},
		{"((a b) ...)", "()", "a:1=[], b:1=[]"},
		{"((a b ...) ...)", "((1 2 3) (4) (5 6))", "a=[1 4 5], b=[[2 3] [] [6]]"},
		{"((a b ...) ...)", "()", "a:1=[], b:2=[]"},
		{"(((a ...) ...) ...)", "(((1 2) ()) () ((3)))", "a=[[[1 2] []] [] [[3]]]"},
		{"((a ... b) ... c)", "((1 2) (3) 4)", "a=[[1] []], b=[2 3], c=4"},
		{"((a ... b) ... c)", "((1 2) () 4)", "no"},
		{"(#(a ...) ...)", "(#(1) #())", "a=[[1] []]"},
		{"(a . b)", "(1 2 3)", "a=1, b=(2 3)"},
		{"(a . b)", "(1)", "a=1, b=()"},
		{"(a . b)", "(1 . 2)", "a=1, b=2"},
		{"(a . b)", "(1 2 . 3)", "a=1, b=(2 . 3)"},
		{"(a . b)", "()", "no"},
		{"(a . b)", "#(1 2)", "no"},
		{"(a . b)", "5", "no"},
		{"(a b . c)", "(1)", "no"},
		{"(a b . c)", "(1 . 2)", "no"},
		{"(a b . c)", "(1 2 3 . 4)", "a=1, b=2, c=(3 . 4)"},
		{"(a . 5)", "(1 . 5)", "a=1"},
		{"(a . 5)", "(1 5)", "no"},
		{"(a . 5)", "(1)", "no"},
		{"(a . else)", "(1 . else)", "a=1"},
		{"(a . else)", "(1 else)", "no"},
		{"(a . _)", "(1 else . 6)", "a=1"},
		{"(a . #(b ...))", "(1 . #(2 3))", "a=1, b=[2 3]"},
		{"(a . #(b ...))", "(1 #(2 3))", "no"},
		{"((a . b) ...)", "((1 2) (3) (4 . 5))", "a=[1 3 4], b=[(2) () 5]"},
		{"((else a) ...)", "((else 1) (else 2))", "a=[1 2]"},
		{"((else a) ...)", "((else 1) (other 2))", "no"},
		{"(else ... a dots^1)", "(else else)", "no"}, // no pattern
		{"(a a)", "(1 1)", "no"},
		{"...", "1", "no"},
		{"(a dots^4^5 b)", "(1 2 3)", "a=[1 2], b=3"},
		{"(a^1 a)", "(1 2)", "a^1=1, a=2"},
		{"(b a (d c))", "(1 2 (3 4))", "b=1, a=2, d=3, c=4"},
	} {
		got, ok := pattern.Match(ds("else"), d(x.pat), d(x.form), texts)
		s := show(got)
		if !ok {
			s = "no"
			if len(got) > 0 {
				t.Errorf("%s, %s: bindings though it doesn't match", x.pat, x.form)
			}
		}
		if s != x.want {
			t.Errorf("%s, %s: %s, not %s", x.pat, x.form, s, x.want)
		}
	}
}

// P6.2: what is invalid doesn't match, whatever the rest is.
func TestMatchOfInvalid(t *testing.T) {
	all := append(noLits(), nil, ds("else"))
	for _, lits := range all {
		for _, pat := range []api.Datum{sym("a"), sym("_"), d("(a ...)"), d("(a . b)")} {
			for what, form := range wrong() {
				if got, ok := pattern.Match(lits, pat, form, texts); ok || len(got) > 0 {
					t.Errorf("%s as a form matches %s: %v", what, text(pat), got)
				}
			}
		}
		for what, pat := range wrong() {
			if got, ok := pattern.Match(lits, pat, pat, texts); ok || len(got) > 0 {
				t.Errorf("%s as a pattern is matched: %v", what, got)
			}
		}
	}
	for _, lits := range noLits() {
		if got, ok := pattern.Match(lits, sym("a"), num(1), texts); ok || len(got) > 0 {
			t.Errorf("Match with %s for literals: %v", textOf(lits), got)
		}
	}
}

// P6.3: Build by hand.
func TestBuildByHand(t *testing.T) {
	got := []api.Got{
		is("a", "1"), is("l", "(7 8)"), is("e", "()"), is("i", "(7 . 8)"), is("s", "x^9"),
		nums("r", 1, 2, 3), nums("q", 4, 5, 6), nums("n"), nums("two", 4, 5),
		row("rr", 2, nums("rr", 1, 2), nums("rr"), nums("rr", 3)),
		row("none", 2),
		row("ls", 1, is("ls", "(1)"), is("ls", "()"), is("ls", "(2 . 3)")),
		is("twice", "1"), nums("twice", 1, 2),
		is("_", "under"),
	}
	for _, x := range []struct {
		tmpl string
		mark int
		want string
	}{
		{"a", 5, "1"},
		{"5", 5, "5"},
		{"(\"a\" #\\a #t ())", 5, "(\"a\" #\\a #t ())"},
		{"x", 5, "x^5"},
		{"x", 0, "x"},
		{"x^3^2", 5, "x^3^2^5"},
		{"x^3", 0, "x^3"},
		{"a^1", 5, "a^1^5"}, // another symbol than a
		{"s", 5, "x^9"},
		{"_", 5, "under"},
		{"_^1", 5, "_^1^5"},
		{"(a \"...\" \"_\")", 5, "(1 \"...\" \"_\")"},
		{"(a x a #(a x))", 5, "(1 x^5 1 #(1 x^5))"},
		{"(r ...)", 5, "(1 2 3)"},
		{"(r dots^3)", 5, "(1 2 3)"},
		{"#(r ...)", 5, "#(1 2 3)"},
		{"(r ... x r ...)", 5, "(1 2 3 x^5 1 2 3)"},
		{"(n ...)", 5, "()"},
		{"#(n ...)", 5, "#()"},
		{"(x n ... x)", 5, "(x^5 x^5)"},
		{"((x n) ... x)", 5, "(x^5)"},
		{"((r q) ...)", 5, "((1 4) (2 5) (3 6))"},
		{"((r a x) ...)", 5, "((1 1 x^5) (2 1 x^5) (3 1 x^5))"},
		{"((r r) ...)", 0, "((1 1) (2 2) (3 3))"},
		{"((rr ...) ...)", 5, "((1 2) () (3))"},
		{"((r rr ...) ...)", 5, "((1 1 2) (2) (3 3))"},
		{"(((r rr) ...) ...)", 5, "(((1 1) (1 2)) () ((3 3)))"},
		{"((none ...) ...)", 5, "()"},
		{"(a . x)", 5, "(1 . x^5)"},
		{"(a . 5)", 5, "(1 . 5)"},
		{"(a . #(r ...))", 5, "(1 . #(1 2 3))"},
		{"(a . l)", 5, "(1 7 8)"},
		{"(a . e)", 5, "(1)"},
		{"(a . i)", 5, "(1 7 . 8)"},
		{"(a . a)", 5, "(1 . 1)"},
		{"(a l . l)", 5, "(1 (7 8) 7 8)"},
		{"(r ... . l)", 5, "(1 2 3 7 8)"},
		{"(r ... . x)", 5, "(1 2 3 . x^5)"},
		{"(n ... . l)", 5, "(7 8)"},
		{"(n ... . e)", 5, "()"},
		{"(n ... . i)", 5, "(7 . 8)"},
		{"(n ... . x)", 5, "x^5"},
		{"(n ... . 5)", 5, "5"},
		{"(n ... . a)", 5, "1"},
		{"(n ... . #(a))", 5, "#(1)"},
		{"((n ... . l))", 5, "((7 8))"},
		{"((x . ls) ...)", 5, "((x^5 1) (x^5) (x^5 2 . 3))"},
		{"((r . q) ...)", 5, "((1 . 4) (2 . 5) (3 . 6))"},
		{"(#(r n ...) ...)", 5, "error 61"},
		{"((r two) ...)", 5, "error 62"},
		{"((two r) ...)", 5, "error 62"},
		{"((r n) ...)", 5, "error 62"},
		{"((n r) ...)", 5, "error 62"},
		{"((rr r) ...)", 5, "error 61"},
		{"((r rr ... two) ...)", 5, "error 62"},
		{"((none r) ...)", 5, "error 61"},
		{"((r none ...) ...)", 5, "error 62"},
		{"(((rr none) ...) ...)", 5, "error 62"},
		{"twice", 5, "1"},
		{"(twice ...)", 5, "error 61"},
		{"r", 5, "error 61"},
		{"(a ...)", 5, "error 61"},
		{"(x ...)", 5, "error 61"},
		{"...", 5, "error 61"},
		{"(r . ...)", 5, "error 61"},
		{"(... r)", 5, "error 61"},
		{"(r ... ...)", 5, "error 61"},
		{"(rr ... ...)", 5, "error 61"},
		{"((r q two n) x x)", 5, "error 61"},
	} {
		s := ""
		b, e := pattern.Build(d(x.tmpl), got, x.mark)
		if s = text(b); e != api.OK {
			s = "error " + strconv.Itoa(int(e))
			if !none(b) {
				t.Errorf("%s: %v beside an error", x.tmpl, b)
			}
		}
		if s != x.want {
			t.Errorf("%s: %s, not %s", x.tmpl, s, x.want)
		}
	}
}

// P6.3: rows that are uneven only where an outer element is at one of its places.
func TestUnevenWithin(t *testing.T) {
	got := []api.Got{row("p", 2, nums("p", 1), nums("p", 2, 3)), row("q", 2, nums("q", 4), nums("q", 5)), row("r", 2, nums("r", 4), nums("r", 5, 6))}
	if x, e := pattern.Build(d("(((p q) ...) ...)"), got, 0); e != api.ErrUneven || !none(x) {
		t.Error(text(x), int(e))
	}
	if x, e := pattern.Build(d("(((p r) ...) ...)"), got, 0); e != api.OK || text(x) != "(((1 4)) ((2 5) (3 6)))" {
		t.Error(text(x), int(e))
	}
	if x, e := pattern.Build(d("((p ... q ...) ...)"), got, 0); e != api.OK || text(x) != "((1 4) (2 3 5))" {
		t.Error(text(x), int(e))
	}
}

// noBindings are bindings that may not be, each call makes them anew.
func noBindings() map[string][]api.Got {
	l := map[string][]api.Got{
		"an ellipsis":             {is("...", "1")},
		"an ellipsis with marks":  {is("dots^1", "1")},
		"a number's":              {is("1", "1")},
		"a list's":                {is("(a)", "1")},
		"nobody's":                {{D: num(1)}},
		"no datum":                {{ID: sym("a")}},
		"a datum with a row":      {{ID: sym("a"), D: num(1), L: nums("a", 1).L}},
		"a row with a datum":      {{ID: sym("a"), Deep: 1, D: num(1), L: nums("a", 1).L}},
		"an empty one with one":   {{ID: sym("a"), Deep: 1, D: num(1)}},
		"a row with a kind":       {{ID: sym("a"), Deep: 1, D: api.Datum{K: api.DList}}},
		"a row with no kind":      {{ID: sym("a"), Deep: 1, D: api.Datum{N: 1}}},
		"a row with a text":       {{ID: sym("a"), Deep: 1, D: api.Datum{S: "a"}}},
		"a row with a mark":       {{ID: sym("a"), Deep: 1, D: api.Datum{M: []int{1}}}},
		"a row with an element":   {{ID: sym("a"), Deep: 1, D: api.Datum{L: []api.Datum{num(1)}}}},
		"a row with a tail":       {{ID: sym("a"), Deep: 1, D: api.Datum{T: []api.Datum{num(1)}}}},
		"another's within":        {row("a", 1, is("b", "1"))},
		"another mark's within":   {row("a", 1, is("a^1", "1"))},
		"less marked within":      {row("a^1", 1, is("a", "1"))},
		"nobody's within":         {row("a", 1, api.Got{D: num(1)})},
		"another's further in":    {row("a", 2, row("a", 1), row("a", 1, is("a", "1"), is("b", "1")))},
		"too shallow within":      {row("a", 2, is("a", "1"))},
		"as deep within":          {row("a", 1, row("a", 1))},
		"deeper within":           {row("a", 1, row("a", 2))},
		"a datum with one within": {{ID: sym("a"), D: num(1), L: []api.Got{{ID: sym("a"), Deep: -1}}}},
		"one that is negative":    {{ID: sym("a"), Deep: -1}},
		"a negative one with one": {{ID: sym("a"), Deep: -1, D: num(1)}},
		"one that is 65":          {row("a", 65)},
		"one that is far deeper":  {row("a", 1<<40)},
		"the last one":            {is("a", "1"), nums("b", 1, 2), is("...", "1")},
		"one that isn't used":     {is("a", "1"), row("a", 1, is("b", "1"))},
	}
	for what, x := range wrong() {
		l["a datum: "+what] = []api.Got{{ID: sym("a"), D: x}}
		l["a datum in a row: "+what] = []api.Got{row("a", 1, is("a", "1"), api.Got{ID: sym("a"), D: x})}
		l["a symbol: "+what] = []api.Got{{ID: x, D: num(1)}}
		l["a row's symbol: "+what] = []api.Got{{ID: x, Deep: 1}}
		l["in a row, a symbol: "+what] = []api.Got{row("a", 1, is("a", "1"), api.Got{ID: x, D: num(1)})}
	}
	round := row("a", 64, row("a", 63))
	round.L[0].L = round.L
	l["a row without end"] = []api.Got{round}
	return l
}

// P6.3, R1: which error of Build comes first: the mark's and the bindings', the template's own, what makes it none.
func TestBuildErrors(t *testing.T) {
	good := []api.Got{is("a", "1"), nums("r", 1, 2), nums("s", 1)}
	tmpls := []api.Datum{d("a"), d("x"), d("(5 ...)"), d("((r s) ...)"), {}, sym("1"), wrong()["no end"]}
	hold := func(what string, tmpl api.Datum, got []api.Got, mark int, want api.Errno) {
		t.Helper()
		if x, e := pattern.Build(tmpl, got, mark); e != want || !none(x) {
			t.Errorf("%s: Build(%s, .., %d) is %s, %d, not %d", what, text(tmpl), mark, text(x), int(e), int(want))
		}
	}
	for _, tmpl := range tmpls {
		for _, mark := range []int{-1, -2, -1 << 63, 1<<20 + 1, 1 << 32, 1<<32 + 1, 1<<63 - 1} {
			hold("a mark", tmpl, good, mark, api.ErrArg)
		}
		for what, got := range noBindings() {
			hold(what, tmpl, got, 0, api.ErrArg)
			hold(what, tmpl, append(good, got...), 1, api.ErrArg)
			hold(what, tmpl, got, -1, api.ErrArg)
		}
	}
	for what, tmpl := range wrong() {
		hold(what, tmpl, good, 1, datum.Check(tmpl))
		hold(what, list(tmpl, d("(5 ...)")), good, 1, datum.Check(list(tmpl, d("(5 ...)"))))
	}
	hold("no template", d("((r s) ... (5 ...))"), good, 1, api.ErrTmpl) // though uneven ones come first
	hold("uneven", d("((r s) ...)"), good, 1, api.ErrUneven)
}

// P6.4: Expand by hand.
func TestExpandByHand(t *testing.T) {
	rules := []api.Rule{
		{Pat: d("(m else a)"), Tmpl: d("(first a)")},
		{Pat: d("(other a b)"), Tmpl: d("(second a b)")}, // the name doesn't matter
		{Pat: d("(m (a b ...) ...)"), Tmpl: d("(third (a ...) (b ... a) ...)")},
		{Pat: d("(m . #(a ...))"), Tmpl: d("#(fourth a ...)")},
		{Pat: d("(m a ... 5)"), Tmpl: d("(fifth . a)")},
		{Pat: d("(m)"), Tmpl: d("never")},
	}
	rules[4].Tmpl = d("(fifth a ...)")
	for _, x := range []struct {
		form string
		n    int
		want string
	}{
		{"(m else 1)", 0, "(first^3 1)"},
		{"(else else x)", 0, "(first^3 x)"},
		{"((1 2) else^4 x^5)", 0, "(first^3 x^5)"},
		{"(m 1 2)", 1, "(second^3 1 2)"},
		{"(m)", 2, "(third^3 ())"},
		{"(m (1 2 3))", 2, "(third^3 (1) (2 3 1))"},
		{"(m (1 2 3) (4) (x y))", 2, "(third^3 (1 4 x) (2 3 1) (4) (y x))"},
		{"(m . #(1 x))", 3, "#(fourth^3 1 x)"},
		{"(m . #())", 3, "#(fourth^3)"},
		{"(m 5)", 4, "(fifth^3)"},
		{"(m 1 2 5)", 4, "(fifth^3 1 2)"},
		{"(m 1 2 3)", 0, "error 63"},
		{"(m . 5)", 0, "error 63"},
		{"(m 1 2 . 5)", 0, "error 63"},
		{"()", 0, "error 63"},
		{"m", 0, "error 63"},
		{"5", 0, "error 63"},
		{"#(m 1 2)", 0, "error 63"},
	} {
		b, n, e := pattern.Expand(ds("else"), d(x.form), 3, texts, rules...)
		s := text(b)
		if e != api.OK {
			s = "error " + strconv.Itoa(int(e))
			if !none(b) {
				t.Errorf("%s: %v beside an error", x.form, b)
			}
		}
		if s != x.want || n != x.n {
			t.Errorf("%s: %s by rule %d, not %s by %d", x.form, s, n, x.want, x.n)
		}
	}
}

// P6.4, R1: which error of Expand comes first: that of the first rule that has one, ErrMatch, Build's; the index is 0 then.
func TestExpandErrors(t *testing.T) {
	any, never := api.Rule{Pat: d("(m . a)"), Tmpl: d("a")}, api.Rule{Pat: d("(m never)"), Tmpl: d("1")}
	noPat, noTmpl := api.Rule{Pat: d("(m a a)"), Tmpl: d("1")}, api.Rule{Pat: d("(m a)"), Tmpl: d("(a ...)")}
	uneven := api.Rule{Pat: d("(m (a ...) b ...)"), Tmpl: d("((a b) ...)")}
	badPat, badTmpl := api.Rule{Pat: sym("1"), Tmpl: d("1")}, api.Rule{Pat: d("(m a)"), Tmpl: wrong()["too deep"]}
	lits := ds("never")
	for i, x := range []struct {
		lits  []api.Datum
		form  api.Datum
		mark  int
		rules []api.Rule
		want  api.Errno
	}{
		{lits, d("(m 1)"), 0, []api.Rule{any, noPat}, api.ErrPat}, // all rules are looked at first
		{lits, d("(m 1)"), 0, []api.Rule{any, noTmpl}, api.ErrTmpl},
		{lits, d("(m 1)"), 0, []api.Rule{any, noTmpl, noPat}, api.ErrTmpl},
		{lits, d("(m 1)"), 0, []api.Rule{any, badPat, noTmpl}, api.ErrDatum},
		{lits, d("(m 1)"), -1, []api.Rule{any, badTmpl, noTmpl}, api.ErrDeep},
		{lits, d("5"), -1, []api.Rule{any, noPat}, api.ErrPat},
		{lits, api.Datum{}, -1, []api.Rule{any, noPat}, api.ErrPat},
		{ds("_"), d("5"), 0, []api.Rule{any}, api.ErrArg},
		{ds("_"), d("5"), 0, []api.Rule{{Pat: d("5"), Tmpl: d("5")}, any}, api.ErrPat},
		{ds("_"), d("5"), 0, nil, api.ErrMatch}, // no rule, no literals
		{nil, d("(m 1)"), 0, nil, api.ErrMatch},
		{nil, d("(m 1)"), -1, nil, api.ErrMatch},
		{lits, d("(m 1)"), -1, []api.Rule{never}, api.ErrMatch},
		{lits, d("5"), -1, []api.Rule{any}, api.ErrMatch},
		{lits, d("(m 1)"), -1, []api.Rule{never, any}, api.ErrArg},
		{lits, d("(m 1)"), 1<<20 + 1, []api.Rule{any}, api.ErrArg},
		{lits, d("(m (1 2) 3)"), 0, []api.Rule{never, uneven, any}, api.ErrUneven},
		{lits, d("(m (1 2) 3)"), -1, []api.Rule{never, uneven, any}, api.ErrArg},
	} {
		if b, n, e := pattern.Expand(x.lits, x.form, x.mark, texts, x.rules...); e != x.want || n != 0 || !none(b) {
			t.Errorf("%d: %s, %d, %d, not %d", i, text(b), n, int(e), int(x.want))
		}
	}
	for what, form := range wrong() {
		if b, n, e := pattern.Expand(lits, form, 0, texts, any); e != api.ErrMatch || n != 0 || !none(b) {
			t.Errorf("%s as a form: %s, %d, %d", what, text(b), n, int(e))
		}
	}
}

// P6.2: same is asked about a literal and a symbol, and about nothing else; its answer counts, whatever the texts are.
func TestSameIsAsked(t *testing.T) {
	lits := ds("else =>^1")
	for _, answer := range []bool{true, false} {
		var asked []string
		same := func(lit, x api.Datum) bool {
			asked = append(asked, text(lit)+" "+text(x))
			return answer
		}
		got, ok := pattern.Match(lits, d("(a _ => =>^1 5)"), d("(else else else else 5)"), same)
		if ok != answer || ok && show(got) != "a=else, =>=else" || strings.Join(asked, ", ") != "=>^1 else" {
			t.Error(answer, ok, show(got), asked)
		}
		asked = nil
		got, ok = pattern.Match(lits, d("((else a) ...)"), d("((x^2 1) (y 2) (else 3))"), same)
		if want := "else x^2, else y, else else"; ok != answer || answer && (strings.Join(asked, ", ") != want || show(got) != "a=[1 2 3]") {
			t.Error(answer, ok, show(got), asked)
		}
		asked = nil
		for _, form := range []string{"(5)", "(\"else\")", "((else))", "(#(else))", "(#t)", "(())", "((else . else))"} {
			if got, ok := pattern.Match(lits, d("(else)"), d(form), same); ok || len(got) > 0 || len(asked) > 0 {
				t.Error(answer, form, ok, show(got), asked)
			}
		}
		pattern.Vars(lits, d("(else a)"))
		pattern.Check(lits, api.Rule{Pat: d("(m else a)"), Tmpl: d("(else a)")})
		pattern.Build(d("(else a)"), []api.Got{is("a", "else")}, 1)
		pattern.Match(lits, d("(else a a)"), d("(else 1 2)"), same)
		pattern.Match(lits, d("(else a)"), list(sym("else"), api.Datum{}), same)
		pattern.Match(ds("else _"), d("(else a)"), d("(else 1)"), same)
		pattern.Expand(lits, d("(else else)"), 1, same, api.Rule{Pat: d("(else a)"), Tmpl: d("else")})
		if len(asked) > 0 {
			t.Error("asked without need:", asked)
		}
	}
}

// P1: a test for literals that can't be called, or breaks off, says nothing: what it is asked about isn't so.
func TestSameThatPanics(t *testing.T) {
	rules := []api.Rule{{Pat: d("(m else)"), Tmpl: d("1")}, {Pat: d("(m a)"), Tmpl: d("2")}}
	for i, same := range []func(lit, x api.Datum) bool{nil, func(lit, x api.Datum) bool { panic("no") }, func(lit, x api.Datum) bool { panic(nil) }, func(lit, x api.Datum) bool { return lit.L[3].K == x.K }} {
		if got, ok := pattern.Match(ds("else"), d("(else)"), d("(else)"), same); ok || len(got) > 0 {
			t.Error(i, got)
		}
		if got, ok := pattern.Match(ds("else"), d("(a 5)"), d("(else 5)"), same); !ok || show(got) != "a=else" {
			t.Error(i, show(got))
		}
		if b, n, e := pattern.Expand(ds("else"), d("(m else)"), 1, same, rules...); e != api.OK || n != 1 || text(b) != "2" {
			t.Error(i, text(b), n, int(e))
		}
	}
}
