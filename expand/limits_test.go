package expand_test

import (
	"slices"
	"strconv"
	"strings"
	"testing"

	"shuttle/api"
	"shuttle/core"
	"shuttle/expand"
)

// Macros that make much of little: ten is 11 steps, seven is 3 steps and 7 nodes of a core expression, id is a step, one is two.
const (
	ten   = "(define-syntax ten (syntax-rules () ((_) (begin 1 1 1 1 1 1 1 1 1))))"
	seven = "(define-syntax seven (syntax-rules () ((_) (cond (1)))))"
	id    = "(define-syntax id (syntax-rules () ((_ a) a)))"
	once  = "(define-syntax one (syntax-rules () ((_) 1)))"
)

// times is a datum so many times, as d reads it.
func times(s string, many int) string { return " :" + strconv.Itoa(many) + " " + s }

// padded is a form of so many steps besides those of the forms within it.
func padded(steps int, forms string) string {
	steps-- // its own
	return "(begin " + times("(ten)", steps/11) + times(" 1", steps%11) + " " + forms + ")"
}

// P8.1: what counts as a step and what does not; MaxSteps, and one beyond.
func TestSteps(t *testing.T) {
	t.Parallel()
	for _, r := range []struct {
		form  string
		steps int
	}{
		{"1", 1}, {"#t", 1}, {"\"a\"", 1}, {"x", 1}, {"#(a (b))", 1}, {"(f)", 2}, {"(f x)", 3}, {"((f) (g))", 5},
		{"(quote (a (b)))", 1}, {"(if a b)", 3}, {"(if a b c)", 4}, {"(set! x 1)", 2}, {"(begin 1)", 2}, {"(begin 1 (begin 2 3))", 5},
		{"(lambda (x y) 1)", 2}, {"(lambda x 1 2)", 3}, {"(lambda () (x))", 3},
		{"(let () 1)", 2}, {"(let ((x 1) (y 2)) x)", 4}, {"(let ((x (f))) x y)", 5}, {"(let* () 1)", 2}, {"(let* ((x 1) (y 2)) x)", 4}, {"(let* ((x 1) (y 2) (z 3)) x y)", 6}, {"(letrec () 1)", 2}, {"(letrec ((x 1) (y 2)) x)", 4},
		{"(and)", 1}, {"(and a)", 2}, {"(and a b c)", 4}, {"(or)", 1}, {"(or a)", 2}, {"(or a b c)", 4},
		{"(cond)", 1}, {"(cond (a))", 2}, {"(cond (a) (b) (c))", 4}, {"(cond (a 1 2) (b 3))", 6}, {"(cond (a) (else 3 4))", 4}, {"(when a b)", 3}, {"(unless a b c)", 4},
		{"(let-syntax () 1)", 2}, {"(let-syntax ((m (syntax-rules () ((_) (f)))) (n (syntax-rules ()))) 1)", 2}, {"(let-syntax ((m (syntax-rules () ((_) (f))))) (m) (m))", 7},
		{"(define x 1)", 2}, {"(define (f x) x)", 2}, {"(define (f . x) x x)", 3}, {"(define f (lambda (x) x))", 3}, {"(define-syntax m (syntax-rules () ((_) (f))))", 1},
		{"(ten)", 11}, {"(seven)", 3}, {"(id 1)", 2}, {"(id (id (id 1)))", 4}, {"(id (f 1))", 4}, {"(one)", 2}, {"(id (one))", 3},
	} {
		w := newTwin(t, ten, seven, id, once)
		for _, more := range []int{0, 1, 17} {
			s := padded(4096-r.steps+more, r.form)
			e := api.OK
			if more > 0 {
				e = api.ErrSteps
			}
			if _, f := w.clone().form(d(s)); f != e {
				t.Errorf("%s is no form of %d steps: %d", r.form, r.steps, int(f))
			}
		}
	}
	// The step is counted ahead of what is wrong with the form; what is wrong ahead of it is told first.
	w := newTwin(t, ten, once)
	for _, bad := range []struct {
		form string
		e    api.Errno
	}{{"()", api.ErrSyntax}, {"x^9999", api.ErrScope}, {"(if)", api.ErrSyntax}, {"(one 2)", api.ErrMatch}, {"if", api.ErrSyntax}, {"(x^9999)", api.ErrScope}, {"(f . x)", api.ErrSyntax}, {"(let ((x)) 1)", api.ErrSyntax}} {
		for _, r := range []struct {
			forms string
			steps int
			e     api.Errno
		}{{bad.form, 4095, bad.e}, {bad.form, 4096, api.ErrSteps}, {bad.form + "(ten)", 4095, bad.e}, {"(ten)" + bad.form, 4095, api.ErrSteps}, {"(quote x)" + bad.form, 4095, api.ErrSteps}, {"(f " + bad.form + ")", 4094, api.ErrSteps}, {"(f " + bad.form + ")", 4093, bad.e}} {
			if _, e := w.form(d(padded(r.steps, r.forms))); e != r.e {
				t.Errorf("%s behind %d steps: %d, not %d", r.forms, r.steps, int(e), int(r.e))
			}
		}
	}
	// Each form has steps of its own.
	full := d(padded(4096, ""))
	if _, n, e := w.program(num(1), full); n != 0 || e != api.OK {
		t.Error("a form of all steps behind another:", n, int(e))
	}
	if _, n, e := w.program(full, d("(f x)"), d(padded(4097, ""))); n != 2 || e != api.ErrSteps {
		t.Error("two forms of all steps:", n, int(e))
	}
}

// P8.1: macros that never end, and others that end otherwise.
func TestEndless(t *testing.T) {
	t.Parallel()
	for _, r := range []struct {
		macro, form string
		e           api.Errno
	}{
		{"(syntax-rules () ((_) (m)))", "(m)", api.ErrSteps},
		{"(syntax-rules () ((_ a) (m a)))", "(m (1 2 3))", api.ErrSteps},
		{"(syntax-rules () ((_) (f (m))))", "(m)", api.ErrSteps},
		{"(syntax-rules () ((_) ((m))))", "(m)", api.ErrSteps},
		{"(syntax-rules () ((_) (begin (m) (m))))", "(m)", api.ErrSteps},
		{"(syntax-rules () ((_) (lambda (x) (m))))", "(m)", api.ErrSteps},
		{"(syntax-rules () ((_) (let* ((x 1) (y 2)) (m))))", "(m)", api.ErrSteps},
		{"(syntax-rules () ((_) (and 1 (m))))", "(m)", api.ErrSteps},
		{"(syntax-rules () ((_) (or 1 (m))))", "(m)", api.ErrSteps},
		{"(syntax-rules () ((_) (cond (1) ((m)))))", "(m)", api.ErrSteps},
		{"(syntax-rules () ((_) (letrec ((x (m))) 1)))", "(m)", api.ErrSteps},
		{"(syntax-rules () ((_) (define x (m))))", "(m)", api.ErrSyntax}, // a definition within a definition
		{"(syntax-rules () ((_ a) (m (a a))))", "(m 1)", api.ErrLong},
		{"(syntax-rules () ((_ a) (m (a))))", "(m 1)", api.ErrDeep},
		{"(syntax-rules () ((_ a ...) (m a ... a ...)))", "(m 1)", api.ErrLong},
		{"(syntax-rules () ((_ a ...) (m 1 a ...)))", "(m" + times("1", 4000) + ")", api.ErrLong},
		{"(syntax-rules () ((_ a b ...) (m b ...)))", "(m 1 2 3 4)", api.ErrMatch},
	} {
		x := expand.New()
		must(x.Form(d("(define-syntax m " + r.macro + ")")))
		if c, e := x.Form(d(r.form)); e != r.e || !none(c) || x.Vars() != 0 {
			t.Errorf("%s with %s: %d, not %d", r.form[:min(len(r.form), 100)], r.macro, int(e), int(r.e))
		}
	}
}

// numbers from 1, as parameters.
func params(many int) string {
	s := ""
	for i := range many {
		s += " p" + strconv.Itoa(i)
	}
	return s
}

// P8.1: what is longer, deeper, or has more parameters than a core expression may is told by core.Check, behind all other errors.
func TestCoreLimits(t *testing.T) {
	t.Parallel()
	w := newTwin(t, seven, once)
	lets := func(many int) string { return "(let* (" + times("(x 1) ", many) + ") x)" }
	for _, r := range []struct {
		form string
		e    api.Errno
	}{
		{"(lambda (" + params(32) + ") 1)", api.OK}, {"(lambda (" + params(33) + ") 1)", api.ErrCore}, {"(lambda (" + params(31) + " . y) 1)", api.OK}, {"(lambda (" + params(32) + " . y) 1)", api.ErrCore}, {"(lambda (" + params(2000) + ") 1)", api.ErrCore},
		{"(define (f " + params(32) + ") 1)", api.OK}, {"(define (f " + params(33) + ") 1)", api.ErrCore}, {"(f (lambda (" + params(33) + ") 1) ())", api.ErrSyntax}, {"(lambda (" + params(33) + ") x^999)", api.ErrScope},
		{"(and" + times(" a", 128) + ")", api.OK}, {"(and" + times(" a", 129) + ")", api.ErrDeep}, {"(and" + times(" a", 4094) + ")", api.ErrDeep}, {"(and" + times(" a", 129) + " ())", api.ErrSyntax},
		{"(or" + times(" a", 43) + ")", api.OK}, {"(or" + times(" a", 44) + ")", api.ErrDeep}, {"(or" + times(" a", 4094) + ")", api.ErrDeep}, {"(cond" + times("(a)", 42) + ")", api.OK}, {"(cond" + times("(a)", 43) + ")", api.ErrDeep}, {"(cond" + times("(a b)", 127) + ")", api.OK}, {"(cond" + times("(a b)", 128) + ")", api.ErrDeep},
		{lets(63), api.OK}, {lets(64), api.ErrDeep}, {"(begin " + lets(64) + " ())", api.ErrSyntax},
		{"(f" + times("(seven)", 1170) + ")", api.OK}, {"(f" + times("(seven)", 1170) + " 1)", api.ErrLong}, {"(f" + times("(seven)", 1170) + " 1 ())", api.ErrSyntax}, {"(f 1" + times("(seven)", 1169) + "(begin 1 1 1 1 1))", api.OK},
	} {
		v := w.clone()
		if _, e := v.form(d(r.form)); e != r.e {
			t.Errorf("%s: %d, not %d", r.form[:min(len(r.form), 100)], int(e), int(r.e))
		}
		if v.x.Vars() > 0 != (r.e == api.OK && strings.ContainsAny(r.form[1:2], "lofcd") && !strings.Contains(r.form, "(a b)")) {
			t.Errorf("%s: %d variables", r.form[:min(len(r.form), 100)], v.x.Vars())
		}
	}
	// As many marks of a symbol as may be.
	for many, e := range map[int]api.Errno{14: api.OK, 15: api.OK, 16: api.ErrDatum} {
		v := newTwin(t, once, "(one)")
		x := d("(let-syntax ((m (syntax-rules () ((_) x)))) (m))")
		each(&x, func(x *api.Datum) {
			if x.S == "x" {
				x.M = slices.Repeat([]int{1}, many)
			}
		})
		if _, f := v.form(x); f != e {
			t.Errorf("%d marks: %d, not %d", many+1, int(f), int(e))
		}
	}
}

// P8.2: the whole of a program has limits of its own; then all forms have taken effect.
func TestProgramLimits(t *testing.T) {
	t.Parallel()
	long := "(f" + times("(seven)", 1170) + ")" // as long as may be
	for _, r := range []struct {
		forms string
		n     int
		e     api.Errno
	}{
		{"(begin " + times("(seven)", 1170) + ")", 0, api.OK},
		{long, 1, api.ErrLong},
		{long + " 1 (define-syntax d (syntax-rules ())) 2", 4, api.ErrLong},
		{long + long + long, 3, api.ErrLong},
		{long + " (if) 1", 1, api.ErrSyntax},
		{long + " 1 (and " + times(" a", 129) + ") (if)", 2, api.ErrDeep},
		{"(and" + times(" a", 127) + ")", 0, api.OK},
		{"(and" + times(" a", 128) + ")", 1, api.ErrDeep},
		{"(define-syntax d (syntax-rules ())) (and" + times(" a", 128) + ") (lambda (x) x)", 3, api.ErrDeep},
		{"(and" + times(" a", 128) + ") " + long, 2, api.ErrDeep},
		{times("(seven)", 1170) + " 1", 0, api.OK},
		{times("(seven)", 1170) + " 1 1", 1172, api.ErrLong},
	} {
		w := newTwin(t, seven)
		if _, n, e := w.program(ds(r.forms)...); e != r.e || n != r.n {
			t.Errorf("%s: %d, %d, not %d, %d", r.forms[:min(len(r.forms), 100)], n, int(e), r.n, int(r.e))
		}
		if r.n == 4 && (w.x.Vars() != 1170 || !slices.Contains(slices.Collect(w.x.Macros()), "d")) {
			t.Error("the forms of a program that is too long had no effect:", w.x.Vars())
		}
	}
	// There may be any number of forms.
	x := expand.New()
	if c, n, e := x.Program(slices.Repeat([]api.Datum{num(1)}, 8191)...); e != api.OK || n != 0 || len(c.L) != 8191 {
		t.Error(n, int(e))
	}
	if _, n, e := x.Program(slices.Repeat([]api.Datum{num(1)}, 8192)...); e != api.ErrLong || n != 8192 {
		t.Error(n, int(e))
	}
}

// bound is a form that binds so many identifiers.
func bound(many int) string {
	return "(begin 1" + times("(lambda ("+params(32)+") 1)", many/32) + "(lambda (" + params(many%32) + ") 1))"
}

// P8.1: as many scopes as a table has; then nothing can be bound any more.
func TestManyScopes(t *testing.T) {
	t.Parallel()
	w := newTwin(t, once)
	for range 4 {
		w.form(d(bound(3500)))
	}
	w.form(d(bound(2381))) // 16381 of 16383
	was := w.x.Vars()
	for _, r := range []struct {
		form string
		e    api.Errno
	}{
		{"(lambda (x y z) 1)", api.ErrFull}, {"(lambda (x y z) ())", api.ErrFull}, {"(lambda (x y) (lambda (z) 1) ())", api.ErrFull}, {"(let* ((x 1) (y 1) (z 1)) ())", api.ErrFull}, {"(let* ((x 1) (y 1) (z ())) 1)", api.ErrSyntax},
		{"(let ((x 1) (y 2) (z ())) 1)", api.ErrSyntax}, {"(let ((x 1) (y 2) (z 3)) ())", api.ErrFull}, {"(letrec ((x ()) (y 2) (z 3)) 1)", api.ErrFull}, {"(define (f x y z) 1)", api.ErrFull}, {"(begin (lambda (x y) 1) (lambda x 1))", api.ErrFull},
		{"(let-syntax ((x (syntax-rules ())) (y (syntax-rules ())) (z (syntax-rules ()))) ())", api.ErrFull}, {"(let-syntax ((x (syntax-rules ())) (y (syntax-rules ())) (z 1)) ())", api.ErrSyntax}, {"(lambda (x y z x) 1)", api.ErrSyntax},
		{"(lambda () (f (or x y) (one)))", api.OK},
	} {
		v := w.clone()
		if _, e := v.form(d(r.form)); e != r.e || e != api.OK && v.x.Vars() != was {
			t.Errorf("%s: %d, not %d; %d variables, not %d", r.form, int(e), int(r.e), v.x.Vars(), was)
		}
	}
	for _, s := range []string{"(lambda (x y) 1)", "(let ((x 1) (y 2)) x)", "(let* ((x 1) (y 2)) y)", "(let-syntax ((x (syntax-rules () ((_) 1))) (y (syntax-rules () ((_) 2)))) (x) (y))", "(lambda (x) (let-syntax ((y (syntax-rules () ((_) x)))) (y)))"} {
		v := w.clone()
		if _, e := v.form(d(s)); e != api.OK {
			t.Errorf("%s: %d", s, int(e))
		}
		for _, s := range []string{"(lambda x 1)", "(let ((x 1)) 2)", "(let-syntax ((x (syntax-rules ()))) 1)"} {
			if _, e := v.form(d(s)); e != api.ErrFull {
				t.Errorf("%s in a full expander: %d", s, int(e))
			}
		}
		if _, e := v.form(d("(define (f) (or x y) (cond (x) (else (one))))")); e != api.OK {
			t.Errorf("what binds nothing, in a full expander: %d", int(e))
		}
		if _, e := v.x.Clone().Form(d("(lambda (x) 1)")); e != api.ErrFull {
			t.Errorf("the clone of a full expander: %d", int(e))
		}
	}
}

// P8.1: as many marks as a table has; then no macro can be used any more.
func TestManyMarks(t *testing.T) {
	t.Parallel()
	w := newTwin(t, once, "(lambda (x) (let-syntax ((m (syntax-rules () ((_) x)))) (m)))")
	for range 8 {
		w.form(d("(begin " + times("(one)", 2047) + ")"))
	}
	for _, s := range []string{"(begin " + times("(one)", 8) + ")", "(begin " + times("(one)", 7) + "(one 1) x)"} {
		if _, e := w.clone().form(d(s)); e != api.ErrFull && e != api.ErrMatch {
			t.Error(s, int(e))
		}
	}
	if _, e := w.form(d("(begin " + times("(one)", 7) + ")")); e != api.OK {
		t.Error("as many marks as may be:", int(e))
	}
	for _, r := range []struct {
		form string
		e    api.Errno
	}{
		{"(one)", api.ErrFull}, {"(one 1 2)", api.ErrFull}, {"(begin (if) (one))", api.ErrSyntax}, {"(begin (one) (if))", api.ErrFull}, {"(lambda (x) (let-syntax ((m (syntax-rules ()))) (m)))", api.ErrFull},
		{"(lambda (one) (one))", api.OK}, {"y^16384", api.OK}, {"x^1", api.ErrCore}, {"y^16385", api.ErrScope}, {"(lambda (x^16384) (quote^1 x))", api.OK},
	} {
		if _, e := w.form(d(r.form)); e != r.e {
			t.Errorf("%s: %d, not %d", r.form, int(e), int(r.e))
		}
	}
}

// P8.1, R7: as many variables as may be, and one more.
func TestManyVariables(t *testing.T) {
	t.Parallel()
	x := expand.New()
	form := d("(f" + times("(or 1 2)", 1023) + ")")
	for range 1025 {
		if _, e := x.Form(form); e != api.OK {
			t.Fatal(x.Vars(), int(e))
		}
	}
	if c, e := x.Clone().Form(d("(f (or 1 2) (or 3 4))")); e != api.ErrCore || !none(c) {
		t.Error("one variable too many:", brief(c), int(e))
	}
	if c, e := x.Form(d("(lambda x x)")); e != api.OK || text(c) != "(lambda* (1048576) (local 1048576))" || core.Check(c) != api.OK {
		t.Error("the last variable:", brief(c), int(e))
	}
	for _, s := range []string{"(or 1 2)", "(lambda x x)", "(let ((x 1)) x)", "(cond (1))"} {
		if c, e := x.Form(d(s)); e != api.ErrCore || !none(c) || x.Vars() != 1<<20 {
			t.Errorf("%s: %s, %d, %d", s, brief(c), int(e), x.Vars())
		}
	}
	if _, n, e := x.Program(num(1), d("(or 1)"), d("(or 1 2)")); n != 2 || e != api.ErrCore {
		t.Error("Program", n, int(e))
	}
}
