package expand_test

import (
	"slices"
	"strings"
	"testing"

	"shuttle/api"
	"shuttle/core"
	"shuttle/expand"
	"shuttle/read"
)

// row is a form, and its translation, or its error.
type row struct {
	form string
	core string
	e    api.Errno
}

const swap = "(define-syntax swap! (syntax-rules () ((_ a b) (let ((tmp a)) (set! a b) (set! b tmp)))))"

// rows holds forms against what is written beside them, each in an expander to which these forms were given ahead.
func rows(t *testing.T, ahead []string, l ...row) {
	t.Helper()
	for _, r := range l {
		w := newTwin(t, ahead...)
		was := w.clone()
		c, e := w.x.Form(d(r.form))
		if e != r.e || r.e == api.OK && text(c) != r.core || r.e != api.OK && !none(c) {
			t.Errorf("%s is %s, %d, not %s, %d", r.form, brief(c), int(e), r.core, int(r.e))
			continue
		}
		if x, f := core.Datum(c); e == api.OK && textOf(x) != r.core {
			t.Errorf("%s is not written as %s: %d", r.form, r.core, int(f))
		}
		if e != api.OK {
			w.m = was.m
			w.state()
			continue
		}
		w.m.form(d(r.form))
		w.state()
	}
}

// wrongs are forms with the same error.
func wrongs(t *testing.T, ahead []string, e api.Errno, forms ...string) {
	t.Helper()
	for _, s := range forms {
		rows(t, ahead, row{form: s, e: e})
	}
}

// P8.1: what keywords are, and what are none.
func TestSpecial(t *testing.T) {
	for _, s := range words {
		if !expand.Special(s) {
			t.Errorf("%q is no keyword", s)
		}
	}
	for _, s := range []string{"", "else", "syntax-rules", "car", "If", "if ", " if", "set", "let**", "letrec*", "define-syntax!", "=>", "...", "_", "do", "case", "quasiquote", "\xff", strings.Repeat("if", 1000)} {
		if expand.Special(s) {
			t.Errorf("%q is a keyword", s)
		}
	}
}

// P8.1: forms that no keyword begins.
func TestPlainForms(t *testing.T) {
	rows(t, nil,
		row{form: "-7", core: "(const -7)"},
		row{form: "#t", core: "(const #t)"},
		row{form: "#f", core: "(const #f)"},
		row{form: "#\\a", core: "(const #\\a)"},
		row{form: `"if"`, core: `(const "if")`},
		row{form: "#(a #(1 (b)) (if . c))", core: "(const #(a #(1 (b)) (if . c)))"},
		row{form: "#()", core: "(const #())"},
		row{form: "#(x^1 (y^2^3 . z^99))", core: "(const #(x (y . z)))"},
		row{form: "x", core: "(global x)"},
		row{form: "...", core: "(global ...)"},
		row{form: "_", core: "(global _)"},
		row{form: "else", core: "(global else)"},
		row{form: "syntax-rules", core: "(global syntax-rules)"},
		row{form: "(f)", core: "(call (global f))"},
		row{form: "(f 1 x (g))", core: "(call (global f) (const 1) (global x) (call (global g)))"},
		row{form: "(1 2)", core: "(call (const 1) (const 2))"},
		row{form: "((f) if^1)", e: api.ErrScope},
		row{form: "(else 1)", core: "(call (global else) (const 1))"},
		row{form: "((lambda (x) x) 1)", core: "(call (lambda (1) (local 1)) (const 1))"},
	)
	wrongs(t, nil, api.ErrSyntax, "()", "(f . x)", "(if . x)", "(1 . 2)", "(f ())", "(f (g . x))", "(quote 1 . 2)")
	for _, s := range words {
		wrongs(t, nil, api.ErrSyntax, s, "(f "+s+")", "(set! "+s+" 1)", "("+s+" . "+s+")")
	}
}

// P8.1: each keyword but those that bind or define.
func TestKeywords(t *testing.T) {
	rows(t, nil,
		row{form: "(quote x)", core: "(const x)"},
		row{form: "'()", core: "(const ())"},
		row{form: "''x", core: "(const 'x)"},
		row{form: "(quote (x^1 . #(y^2 if^3)))", core: "(const (x . #(y if)))"},
		row{form: "(if a b c)", core: "(if (global a) (global b) (global c))"},
		row{form: "(if a b)", core: "(if (global a) (global b) (const #f))"},
		row{form: "(set! x 1)", core: "(assign x (const 1))"},
		row{form: "(set! x (set! y 1))", core: "(assign x (assign y (const 1)))"},
		row{form: "(lambda (x) (set! x y))", core: "(lambda (1) (set 1 (global y)))"},
		row{form: "(begin a)", core: "(global a)"},
		row{form: "(begin a 1)", core: "(seq (global a) (const 1))"},
		row{form: "(begin (begin a b) (begin c))", core: "(seq (seq (global a) (global b)) (global c))"},
		row{form: "(and)", core: "(const #t)"},
		row{form: "(and a)", core: "(global a)"},
		row{form: "(and a b)", core: "(if (global a) (global b) (const #f))"},
		row{form: "(and a b c)", core: "(if (global a) (if (global b) (global c) (const #f)) (const #f))"},
		row{form: "(or)", core: "(const #f)"},
		row{form: "(or a)", core: "(global a)"},
		row{form: "(or a b)", core: "(call (lambda (1) (if (local 1) (local 1) (global b))) (global a))"},
		row{form: "(or (or a b) (or c d) e)", core: "(call (lambda (2) (if (local 2) (local 2) (call (lambda (4) (if (local 4) (local 4) (global e))) (call (lambda (3) (if (local 3) (local 3) (global d))) (global c))))) (call (lambda (1) (if (local 1) (local 1) (global b))) (global a)))"},
		row{form: "(when a b)", core: "(if (global a) (global b) (const #f))"},
		row{form: "(when a b c)", core: "(if (global a) (seq (global b) (global c)) (const #f))"},
		row{form: "(unless a b)", core: "(if (global a) (const #f) (global b))"},
		row{form: "(unless a b c)", core: "(if (global a) (const #f) (seq (global b) (global c)))"},
		row{form: "(when (or 1 2) (or 3 4))", core: "(if (call (lambda (1) (if (local 1) (local 1) (const 2))) (const 1)) (call (lambda (2) (if (local 2) (local 2) (const 4))) (const 3)) (const #f))"},
		row{form: "(unless (or 1 2) (or 3 4))", core: "(if (call (lambda (1) (if (local 1) (local 1) (const 2))) (const 1)) (const #f) (call (lambda (2) (if (local 2) (local 2) (const 4))) (const 3)))"},
	)
	wrongs(t, nil, api.ErrSyntax,
		"(quote)", "(quote 1 2)", "(if)", "(if a)", "(if a b c d)", "(set!)", "(set! x)", "(set! x 1 2)", "(set! 1 2)", "(set! (x) 1)",
		"(begin)", "(begin (begin))", "(when)", "(when a)", "(unless)", "(unless a)", "(when . a)", "(and . a)", "(or . a)", "(begin . a)")
}

// P8.1: cond.
func TestCond(t *testing.T) {
	rows(t, nil,
		row{form: "(cond)", core: "(const #f)"},
		row{form: "(cond (a))", core: "(call (lambda (1) (if (local 1) (local 1) (const #f))) (global a))"},
		row{form: "(cond (a 1))", core: "(if (global a) (const 1) (const #f))"},
		row{form: "(cond (a 1 2) (b 3))", core: "(if (global a) (seq (const 1) (const 2)) (if (global b) (const 3) (const #f)))"},
		row{form: "(cond (else 1))", core: "(const 1)"},
		row{form: "(cond (else 1 2))", core: "(seq (const 1) (const 2))"},
		row{form: "(cond (a) (else 1))", core: "(call (lambda (1) (if (local 1) (local 1) (const 1))) (global a))"},
		row{form: "(cond ((or a b)) ((or c d) e) (f))", core: "(call (lambda (2) (if (local 2) (local 2) (if (call (lambda (3) (if (local 3) (local 3) (global d))) (global c)) (global e) (call (lambda (4) (if (local 4) (local 4) (const #f))) (global f))))) (call (lambda (1) (if (local 1) (local 1) (global b))) (global a)))"},
		row{form: "(cond ((else) 1) (\"else\" 2) (else1 3))", core: "(if (call (global else)) (const 1) (if (const \"else\") (const 2) (if (global else1) (const 3) (const #f))))"},
		row{form: "(lambda (else) (cond (else) (else 1)))", core: "(lambda (1) (call (lambda (2) (if (local 2) (local 2) (if (local 1) (const 1) (const #f)))) (local 1)))"},
		row{form: "(let-syntax ((else (syntax-rules () ((_) 5)))) (cond (1 2) ((else) 3)))", core: "(if (const 1) (const 2) (if (const 5) (const 3) (const #f)))"},
	)
	wrongs(t, nil, api.ErrSyntax,
		"(cond a)", "(cond ())", "(cond (a . 1))", "(cond #(a))", "(cond (else))", "(cond (else 1) (a 2))", "(cond (else 1) (else 2))", "(cond (a) (else) (b))",
		"(cond (a 1) . b)", "(cond (a 1) 5)", "(cond (a^1 1) 5)", "(cond (else 1) (a^1))", "(cond (a 1) (else) 5)", "(let-syntax ((else (syntax-rules ()))) (cond (else 1)))")
	wrongs(t, nil, api.ErrScope, "(cond (else^1 1))", "(cond (else^1))", "(cond (else^1 1) (a))", "(cond ((if)) (else^1 2))", "(cond (a^1 (if)))")
	// The name of a global macro is free, and that of a global as well.
	rows(t, []string{"(define-syntax else (syntax-rules () ((_) 1)))"},
		row{form: "(cond (else 2))", core: "(const 2)"},
		row{form: "(cond ((else) 3))", core: "(if (const 1) (const 3) (const #f))"},
		row{form: "(cond (else))", e: api.ErrSyntax},
	)
	rows(t, []string{"(define else 1)"}, row{form: "(cond (else 2))", core: "(const 2)"})
	// An else that a macro introduces means what it means where the macro was defined.
	rows(t, []string{"(define-syntax last (syntax-rules () ((_ a) (cond (else a)))))", "(define-syntax first (syntax-rules () ((_ e) (cond (e 1)))))"},
		row{form: "(lambda (else) (last else))", core: "(lambda (1) (local 1))"},
		row{form: "(first else)", core: "(const 1)"},
		row{form: "(lambda (else) (first else))", core: "(lambda (1) (if (local 1) (const 1) (const #f)))"},
	)
	rows(t, nil, row{form: "(lambda (else) (let-syntax ((last (syntax-rules () ((_ a) (cond (else a)))))) (last 1)))", core: "(lambda (1) (if (local 1) (const 1) (const #f)))"})
}

// P8.1: what binds variables.
func TestBinders(t *testing.T) {
	rows(t, nil,
		row{form: "(lambda () 1)", core: "(lambda () (const 1))"},
		row{form: "(lambda (x) x)", core: "(lambda (1) (local 1))"},
		row{form: "(lambda (x y) y x)", core: "(lambda (1 2) (seq (local 2) (local 1)))"},
		row{form: "(lambda x x)", core: "(lambda* (1) (local 1))"},
		row{form: "(lambda (x . y) (x y))", core: "(lambda* (1 2) (call (local 1) (local 2)))"},
		row{form: "(lambda (x x^1) x)", core: "(lambda (1 2) (local 1))"},
		row{form: "(lambda (x) (lambda (x y) x) x)", core: "(lambda (1) (seq (lambda (2 3) (local 2)) (local 1)))"},
		row{form: "(let () 1)", core: "(call (lambda () (const 1)))"},
		row{form: "(let ((x 1)) x)", core: "(call (lambda (1) (local 1)) (const 1))"},
		row{form: "(let ((x y) (y x)) x y)", core: "(call (lambda (1 2) (seq (local 1) (local 2))) (global y) (global x))"},
		row{form: "(let ((x (lambda (x) x)) (y (or 1 2))) (lambda (z) x))", core: "(call (lambda (3 4) (lambda (5) (local 3))) (lambda (1) (local 1)) (call (lambda (2) (if (local 2) (local 2) (const 2))) (const 1)))"},
		row{form: "(let* () 1 2)", core: "(seq (const 1) (const 2))"},
		row{form: "(let* ((x 1)) x)", core: "(call (lambda (1) (local 1)) (const 1))"},
		row{form: "(let* ((x x) (x x) (y x)) x y)", core: "(call (lambda (1) (call (lambda (2) (call (lambda (3) (seq (local 2) (local 3))) (local 2))) (local 1))) (global x))"},
		row{form: "(let* ((x (or 1 2)) (y (or x 3))) y)", core: "(call (lambda (2) (call (lambda (4) (local 4)) (call (lambda (3) (if (local 3) (local 3) (const 3))) (local 2)))) (call (lambda (1) (if (local 1) (local 1) (const 2))) (const 1)))"},
		row{form: "(letrec () 1)", core: "(call (lambda () (seq (const 1))))"},
		row{form: "(letrec () 1 2)", core: "(call (lambda () (seq (seq (const 1) (const 2)))))"},
		row{form: "(letrec ((f g) (g f)) (f) g)", core: "(call (lambda (1 2) (seq (set 1 (local 2)) (set 2 (local 1)) (seq (call (local 1)) (local 2)))) (const #f) (const #f))"},
		row{form: "(letrec ((f (lambda (x) f))) f)", core: "(call (lambda (1) (seq (set 1 (lambda (2) (local 1))) (local 1))) (const #f))"},
		row{form: "(let-syntax () 1 2)", core: "(seq (const 1) (const 2))"},
		row{form: "(let-syntax ((m (syntax-rules () ((_ a) (quote a))))) (m x))", core: "(const x)"},
		row{form: "(let-syntax ((m (syntax-rules () ((_) 1))) (n (syntax-rules () ((_) (m))))) (n) (m))", core: "(seq (call (global m)) (const 1))"},
		row{form: "(let-syntax ((m (syntax-rules () ((_) 1)))) (let-syntax ((m (syntax-rules () ((_) (m))))) (m)))", core: "(const 1)"},
		row{form: "(let-syntax ((m (syntax-rules () ((_) 1)))) (let ((m 2)) m))", core: "(call (lambda (1) (local 1)) (const 2))"},
		row{form: "(let-syntax ((m (syntax-rules () ((_) 1))) (m^1 (syntax-rules () ((_) 2)))) (m))", core: "(const 1)"},
		row{form: "(let ((m 1)) (let-syntax ((m (syntax-rules () ((_) m)))) (m)))", core: "(call (lambda (1) (local 1)) (const 1))"},
	)
	for _, s := range []string{"let", "let*", "letrec", "let-syntax"} {
		value := " 1)"
		if s == "let-syntax" {
			value = " (syntax-rules ()))"
		}
		for _, rest := range []string{"", " ()", " x", " x 1", " 1 2", " #() 1", " (x) 1", " ((x)) 1", " ((1" + value + ") 1", " (((x)" + value + ") 1", " ((x . 1)) 1", " ((x 1 2)) 1", " ((x" + value + " . x) 1",
			" ((x" + value + ")", " (#(x 1)) 1", " ((x" + value + " 5) 1", " ((x" + value + " ()) 1", " () . 1", " ((x" + value + ") . 1"} {
			wrongs(t, nil, api.ErrSyntax, "("+s+rest+")")
		}
		if s != "let*" {
			wrongs(t, nil, api.ErrSyntax, "("+s+" ((x"+value+" (x"+value+") 1)", "("+s+" ((x^1"+value+" (y"+value+" (x^1"+value+") 1)")
		}
	}
	wrongs(t, nil, api.ErrSyntax, "(lambda)", "(lambda x)", "(lambda (x))", "(lambda 1 x)", "(lambda (1) x)", "(lambda ((x)) x)", "(lambda (x x) 1)", "(lambda (x y x) 1)", "(lambda (x . x) 1)", "(lambda (x . 1) 1)",
		"(lambda (1 . x) 1)", "(lambda (x y . y) 1)", "(lambda #(x) 1)", "(lambda \"x\" 1)", "(lambda x . 1)", "(lambda (x) 1 . 2)", "(lambda (x^1 y x^1) 1)", "(lambda (x (y)) 1)", "(lambda (x . #()) 1)")
}

// P8.1: keywords are bound like other names, and what they mean then.
func TestBoundKeywords(t *testing.T) {
	for _, s := range words {
		rows(t, nil,
			row{form: "(lambda (" + s + ") (" + s + " " + s + "))", core: "(lambda (1) (call (local 1) (local 1)))"},
			row{form: "(lambda " + s + " " + s + ")", core: "(lambda* (1) (local 1))"},
			row{form: "(let ((" + s + " 1)) (set! " + s + " 2) x)", core: "(call (lambda (1) " + map[bool]string{true: "(seq (call (local 1) (local 1) (const 2)) (global x))", false: "(seq (set 1 (const 2)) (global x))"}[s == "set!"] + ") (const 1))"},
			row{form: "(let* ((" + s + " 1) (y " + s + ")) (" + s + "))", core: "(call (lambda (1) (call (lambda (2) (call (local 1))) (local 1))) (const 1))"},
			row{form: "(letrec ((" + s + " 1)) " + s + ")", core: "(call (lambda (1) (seq (set 1 (const 1)) (local 1))) (const #f))"},
			row{form: "(let-syntax ((" + s + " (syntax-rules () ((_ a) a)))) (" + s + " 7))", core: "(const 7)"},
			row{form: "(define " + s + " 1)", e: api.ErrSyntax},
			row{form: "(define (" + s + " x) 1)", e: api.ErrSyntax},
			row{form: "(define (" + s + " . x) 1)", e: api.ErrSyntax},
			row{form: "(define-syntax " + s + " (syntax-rules ()))", e: api.ErrSyntax},
		)
	}
	rows(t, nil, row{form: "(lambda (define) (define x 1))", core: "(lambda (1) (call (local 1) (global x) (const 1)))"})
}

// P8.1: definitions, at the top level and elsewhere.
func TestDefinitions(t *testing.T) {
	rows(t, nil,
		row{form: "(define x 1)", core: "(define x (const 1))"},
		row{form: "(define x x)", core: "(define x (global x))"},
		row{form: "(define ... 1)", core: "(define ... (const 1))"},
		row{form: "(define else 1)", core: "(define else (const 1))"},
		row{form: "(define (f) 1)", core: "(define f (lambda () (const 1)))"},
		row{form: "(define (f x y) x (f y))", core: "(define f (lambda (1 2) (seq (local 1) (call (global f) (local 2)))))"},
		row{form: "(define (f . x) x)", core: "(define f (lambda* (1) (local 1)))"},
		row{form: "(define (f x . y) y)", core: "(define f (lambda* (1 2) (local 2)))"},
		row{form: "(define (f f) f)", core: "(define f (lambda (1) (local 1)))"},
		row{form: "(define (f x x^1) x)", core: "(define f (lambda (1 2) (local 1)))"},
		row{form: "(begin (define x 1))", core: "(define x (const 1))"},
		row{form: "(begin (define x 1) (begin 2 (begin (define y 3) (define x 4))) x)", core: "(seq (define x (const 1)) (seq (const 2) (seq (define y (const 3)) (define x (const 4)))) (global x))"},
		row{form: "(define-syntax m (syntax-rules ()))", core: "(const #f)"},
		row{form: "(begin (define-syntax m (syntax-rules () ((_ a) (f a)))) (m 1) (begin (define-syntax m (syntax-rules () ((_ a) 2))) (m 1)) (m 3))", core: "(seq (const #f) (call (global f) (const 1)) (seq (const #f) (const 2)) (const 2))"},
		row{form: "(begin (define-syntax m (syntax-rules () ((_ a) a))) (m 1) (define m (m 2)) (m 3))", core: "(seq (const #f) (const 1) (define m (call (global m) (const 2))) (call (global m) (const 3)))"},
		row{form: "(begin (define-syntax m (syntax-rules () ((_ a) a))) (define (m x) (m x)) m)", core: "(seq (const #f) (define m (lambda (1) (call (global m) (local 1)))) (global m))"},
		row{form: "(begin (define-syntax car (syntax-rules () ((_ a) a))) (car 1))", core: "(seq (const #f) (const 1))"},
	)
	wrongs(t, nil, api.ErrSyntax,
		"(define)", "(define x)", "(define x 1 2)", "(define 1 2)", "(define () 1)", "(define ((f) x) 1)", "(define (1 x) 1)", "(define (f))", "(define (f x))", "(define (f x x) 1)", "(define (f 1) 1)", "(define (f . 1) 1)",
		"(define (f x . x) 1)", "(define #(f) 1)", "(define (1 . x) 1)", "(define \"x\" 1)", "(define x . 1)", "(define (f) . 1)", "(define (f (x)) 1)",
		"(define-syntax)", "(define-syntax m)", "(define-syntax 1 (syntax-rules ()))", "(define-syntax (m) (syntax-rules ()))", "(define-syntax m (syntax-rules ()) 1)", "(define-syntax m . 1)")
	for _, inner := range []string{"(define x 1)", "(define (f) 1)", "(define-syntax m (syntax-rules ()))", "(begin (define x 1))", "(begin 1 (define-syntax m (syntax-rules ())))"} {
		for _, outer := range []string{"(f %)", "(if % 1 2)", "(if 1 % 2)", "(if 1 2 %)", "(lambda () %)", "(lambda (x) 1 %)", "(set! x %)", "(let () %)", "(let ((x %)) 1)", "(let ((x 1)) % 1)", "(let* () %)", "(let* ((x %)) 1)", "(let* ((x 1)) %)",
			"(letrec () %)", "(letrec ((x %)) 1)", "(letrec ((x 1)) %)", "(and %)", "(and 1 %)", "(and % 1)", "(or %)", "(or 1 %)", "(or % 1)", "(cond (%))", "(cond (1 %))", "(cond (else %))", "(cond (% 1))", "(cond (1) (else 1 %))", "(cond (% 1) (else 1))", "(when % 1)", "(when 1 %)", "(unless % 1)", "(unless 1 %)",
			"(let-syntax () %)", "(let-syntax ((n (syntax-rules ()))) 1 %)", "(define x %)", "(define (f) %)", "(%)", "(begin (f %))", "(begin 1 (let () %))"} {
			wrongs(t, nil, api.ErrSyntax, strings.ReplaceAll(outer, "%", inner))
		}
	}
}

// P8.1: uses of macros, which introduce binders, use their users' names, define macros, use themselves, and have literals.
func TestMacros(t *testing.T) {
	rows(t, []string{swap, "(define-syntax my-or (syntax-rules () ((_) #f) ((_ a) a) ((_ a b ...) (let ((t a)) (if t t (my-or b ...))))))"},
		row{form: "(swap! x y)", core: "(call (lambda (1) (seq (assign x (global y)) (assign y (local 1)))) (global x))"},
		row{form: "(lambda (tmp x) (swap! tmp x))", core: "(lambda (1 2) (call (lambda (3) (seq (set 1 (local 2)) (set 2 (local 3)))) (local 1)))"},
		row{form: "(lambda (let set!) (swap! let set!))", core: "(lambda (1 2) (call (lambda (3) (seq (set 1 (local 2)) (set 2 (local 3)))) (local 1)))"},
		row{form: "(lambda (swap!) (swap! 1 2))", core: "(lambda (1) (call (local 1) (const 1) (const 2)))"},
		row{form: "(lambda (t) (my-or 1 t (my-or t 2)))", core: "(lambda (1) (call (lambda (2) (if (local 2) (local 2) (call (lambda (3) (if (local 3) (local 3) (call (lambda (4) (if (local 4) (local 4) (const 2))) (local 1)))) (local 1)))) (const 1)))"},
		row{form: "(let ((my-or 1)) my-or)", core: "(call (lambda (1) (local 1)) (const 1))"},
		row{form: "swap!", e: api.ErrSyntax},
		row{form: "(f swap!)", e: api.ErrSyntax},
		row{form: "(set! swap! 1)", e: api.ErrSyntax},
		row{form: "(swap! . x)", e: api.ErrSyntax},
		row{form: "(swap! x)", e: api.ErrMatch},
		row{form: "(swap!)", e: api.ErrMatch},
		row{form: "(swap! x y z)", e: api.ErrMatch},
		row{form: "(swap! 1 2)", e: api.ErrSyntax},
	)
	rows(t, []string{"(define-syntax def (syntax-rules () ((_ n v) (define n v))))", "(define-syntax mine (syntax-rules () ((_ v) (define own v))))", "(define-syntax def-all (syntax-rules () ((_ n ...) (begin (def n 1) ...))))"},
		row{form: "(def x 1)", core: "(define x (const 1))"},
		row{form: "(mine 1)", core: "(define own (const 1))"},
		row{form: "(begin (def x 1) (mine 2))", core: "(seq (define x (const 1)) (define own (const 2)))"},
		row{form: "(def-all a b)", core: "(seq (define a (const 1)) (define b (const 1)))"},
		row{form: "(f (def x 1))", e: api.ErrSyntax},
		row{form: "(lambda () (def-all x))", e: api.ErrSyntax},
		row{form: "(def if 1)", e: api.ErrSyntax},
		row{form: "(def def (def 1 2))", core: "(define def (call (global def) (const 1) (const 2)))"},
	)
	rows(t, []string{"(define-syntax def-macro (syntax-rules () ((_ n x) (define-syntax n (syntax-rules () ((_ y) (x y z)))))))", "(def-macro m (lambda (z) z))"},
		row{form: "(m 1)", core: "(call (lambda (1) (local 1)) (const 1) (global z))"},
		row{form: "(lambda (z y x) (m y))", core: "(lambda (1 2 3) (call (lambda (4) (local 4)) (local 2) (global z)))"},
		row{form: "(let-syntax ((n (syntax-rules () ((_ k) (let-syntax ((k (syntax-rules () ((_ a) (k a x))))) (lambda (x) (k x))))))) (lambda (x k) (n k)))", core: "(lambda (1 2) (lambda (3) (call (local 2) (local 3) (global x))))"},
	)
	rows(t, []string{"(define-syntax for (syntax-rules (in) ((_ x in y) (lambda (x) y)) ((_ x z y) (z x y))))"},
		row{form: "(for x in x)", core: "(lambda (1) (local 1))"},
		row{form: "(lambda (in) (for x in in))", core: "(lambda (1) (call (local 1) (global x) (local 1)))"},
		row{form: "(for x of x)", core: "(call (global of) (global x) (global x))"},
		row{form: "(for x 1 x)", core: "(call (const 1) (global x) (global x))"},
		row{form: "(for 1 in 2)", e: api.ErrSyntax},
		row{form: "(lambda (in) (let-syntax ((m (syntax-rules (in) ((_ in) 1) ((_ x) x)))) (m in) (for x in x)))", core: "(lambda (1) (seq (const 1) (call (local 1) (global x) (global x))))"},
		row{form: "(lambda (in) (let-syntax ((m (syntax-rules (in) ((_ in) 1) ((_ x) 2)))) (lambda (in) (m in))))", core: "(lambda (1) (lambda (2) (const 2)))"},
		row{form: "(let-syntax ((m (syntax-rules () ((_ x) (for y in x))))) (m y))", core: "(lambda (1) (global y))"},
	)
	// A literal means the same as a symbol whatever their marks, and nothing is the same as a symbol with a mark that isn't made.
	rows(t, []string{"(define-syntax is (syntax-rules (it) ((_ it) 1) ((_ x) 2)))", "(define-syntax use (syntax-rules () ((_) (is it))))"},
		row{form: "(use)", core: "(const 1)"},
		row{form: "(lambda (it) (use))", core: "(lambda (1) (const 1))"},
		row{form: "(is it^1)", core: "(const 1)"},
		row{form: "(is it^2)", core: "(const 2)"},
		row{form: "(is (it))", core: "(const 2)"},
	)
}

// P8.1: macros are defined where they stand.
func TestScopesOfMacros(t *testing.T) {
	rows(t, []string{"(define-syntax m (syntax-rules () ((_ a) (lambda (x) (a x y)))))"},
		row{form: "(lambda (x y) (m x))", core: "(lambda (1 2) (lambda (3) (call (local 1) (local 3) (global y))))"},
		row{form: "(lambda (x) (let-syntax ((m (syntax-rules () ((_ a) (lambda (y) (a x y)))))) (lambda (x y) (m y))))", core: "(lambda (1) (lambda (2 3) (lambda (4) (call (local 3) (local 1) (local 4)))))"},
		row{form: "(lambda (x) (let-syntax ((m (syntax-rules () ((_) x)))) (let ((x 1)) (let-syntax ((x (syntax-rules () ((_) (m))))) (x)))))", core: "(lambda (1) (call (lambda (2) (local 1)) (const 1)))"},
		row{form: "(let ((if 1)) (let-syntax ((m (syntax-rules () ((_ a) (if a))))) (lambda (if) (m 5))))", core: "(call (lambda (1) (lambda (2) (call (local 1) (const 5)))) (const 1))"},
		row{form: "(let-syntax ((m (syntax-rules () ((_ a) (let-syntax ((n (syntax-rules () ((_) (f a x))))) (lambda (a x f) (n))))))) (m x))", core: "(lambda (1 2 3) (call (global f) (global x) (global x)))"},
		row{form: "(lambda (syntax-rules) (let-syntax ((m (syntax-rules ()))) 1))", e: api.ErrSyntax},
		row{form: "(let-syntax ((syntax-rules (syntax-rules ()))) (let-syntax ((m (syntax-rules ()))) 1))", e: api.ErrSyntax},
		row{form: "(let-syntax ((syntax-rules (syntax-rules () ((_) 1))) (m (syntax-rules () ((_) 2)))) (m))", core: "(const 2)"},
	)
	rows(t, []string{"(define-syntax syntax-rules (syntax-rules () ((_) 1)))"}, // its name stays free
		row{form: "(let-syntax ((m (syntax-rules () ((_) (syntax-rules))))) (m))", core: "(const 1)"},
	)
	rows(t, []string{"(define-syntax def (syntax-rules () ((_ m) (define-syntax m (syntax-rules () ((_) 1))))))", "(def m)"},
		row{form: "(m)", core: "(const 1)"},
		row{form: "(lambda (syntax-rules) (let-syntax ((n (syntax-rules ()))) 1))", e: api.ErrSyntax},
	)
}

// P8.1: which error comes first, in a form and among its parts.
func TestOrderOfErrors(t *testing.T) {
	ahead := []string{swap}
	// The form's own conditions are ahead of its parts, whatever is wrong with these.
	wrongs(t, ahead, api.ErrSyntax,
		"(if x^9)", "(lambda (1) x^9)", "(lambda (y y) x^9)", "(set! if x^9)", "(set! swap! x^9)", "(set! (y) x^9)", "(let ((y x^9) (1 2)) 3)", "(let ((y x^9) (y 2)) 3)", "(let ((y x^9)))", "(let* ((y x^9) (z)) 3)", "(let* ((y x^9)))", "(letrec ((y x^9) (y 1)) 2)",
		"(when x^9)", "(unless x^9)", "(cond (x^9 1) 2)", "(cond (x^9 1) ())", "(cond (x^9) (else))", "(cond (x^9) (else 1) (2))", "(define if x^9)", "(define x x^9 1)", "(f . x^9)", "(f () x^9)", "(f (if) x^9)", "(f (g (if)) x^9)",
		"(let-syntax ((m (syntax-rules^9 ())) (m 1)) 2)", "(let-syntax ((m (syntax-rules^9 ()))))", "(let-syntax ((m (syntax-rules^9 ())) (n)) 2)", "(define-syntax if (syntax-rules^9 ()))", "(define-syntax m (syntax-rules^9 ()) 1)", "(f (define x^9 1))", "(f (define-syntax x^9 1))")
	// The parts are translated from left to right.
	wrongs(t, ahead, api.ErrScope,
		"x^9", "(x^9)", "(f x^9 ())", "(x^9 ())", "(x^9 . (1 2 ()))", "(if x^9 () ())", "(if 1 x^9 ())", "(if 1 2 x^9)", "(lambda (x) x^9 ())", "(set! x^9 ())", "(set! y x^9)", "(begin 1 x^9 ())", "(let ((y 1) (z x^9)) ())", "(let ((y x^9) (z ())) 1)", "(let* ((y x^9) (z ())) 1)", "(let* ((y 1)) x^9 ())", "(letrec ((y x^9) (z ())) 1)",
		"(letrec ((y 1)) x^9 ())", "(letrec ((y x^9)) ())", "(and 1 x^9 ())", "(and x^9)", "(or 1 x^9 ())", "(or x^9 ())", "(or x^9)", "(cond (x^9 ()) (()))", "(cond (1 x^9) (()))", "(cond (1) (x^9) (()))", "(cond (x^9))", "(cond (1 2) (else x^9 ()))", "(when x^9 ())", "(when 1 x^9 ())", "(unless x^9 ())", "(unless 1 x^9 ())",
		"(define x^9 ())", "(define y x^9)", "(define (x^9 1) 2)", "(define (x^9 y y) 2)", "(define (x^9))", "(define (x^9 . 1) ())", "(define (f) x^9 ())", "(define-syntax x^9 1)", "(begin (begin x^9) ())", "(swap! x^9 y)", "(swap! y x^9)")
	wrongs(t, ahead, api.ErrMatch, "(f (swap! x) x^9)", "(if (swap!) () ())", "(let ((x (swap!))) ())", "(swap! . (x))")
	wrongs(t, ahead, api.ErrSyntax, "(swap! (1 2) ())", "(swap! () x^9)", "(let ((x ())) (swap!))", "(f () (swap!))")
	// What is no datum is told ahead of all.
	x := expand.New()
	deep := num(1)
	for range 64 {
		deep = list(deep)
	}
	endless := list(num(1), num(2))
	endless.L[1] = endless
	for _, r := range []struct {
		x api.Datum
		e api.Errno
	}{
		{endless, api.ErrDeep}, {vec(endless), api.ErrDeep},
		{api.Datum{}, api.ErrDatum}, {list(list(), api.Datum{K: 9}), api.ErrDatum}, {list(sym("if"), sym("x", 0)), api.ErrDatum}, {num(1 << 60), api.ErrDatum}, {deep, api.ErrDeep},
		{list(slices.Repeat([]api.Datum{num(1)}, 4096)...), api.ErrLong}, {list(sym("if"), sym("")), api.ErrDatum},
	} {
		if c, e := x.Form(r.x); e != r.e || !none(c) || x.Vars() != 0 {
			t.Errorf("of an invalid datum: %s, %d, not %d", brief(c), int(e), int(r.e))
		}
	}
}

// P8.1: what a macro definition has to be, in which order that is examined.
func TestMacroDefinitions(t *testing.T) {
	for _, r := range []struct {
		s string
		e api.Errno
	}{
		{"(syntax-rules ())", api.OK},
		{"(syntax-rules (a b^9))", api.OK},
		{"(syntax-rules (1 ...))", api.OK}, // without rules nothing asks for the literals
		{"(syntax-rules () ((_ a) a) ((_ a b) (a b)))", api.OK},
		{"(syntax-rules () ((1 a) a))", api.OK}, // the name of the macro is ignored
		{"(syntax-rules (a) ((_ a a) 1))", api.OK},
		{"(syntax-rules () ((_ . a) a))", api.OK},
		{"1", api.ErrSyntax}, {"m", api.ErrSyntax}, {"()", api.ErrSyntax}, {"(syntax-rules)", api.ErrSyntax}, {"(syntax-rules . a)", api.ErrSyntax}, {"(syntax-rules () . a)", api.ErrSyntax}, {"(syntax-rules a)", api.ErrSyntax}, {"(syntax-rules 1)", api.ErrSyntax},
		{"(syntax-rules (a . b))", api.ErrSyntax}, {"(syntax-rules #(a))", api.ErrSyntax}, {"(1 ())", api.ErrSyntax}, {"((syntax-rules) ())", api.ErrSyntax}, {"#(syntax-rules ())", api.ErrSyntax}, {"(rules ())", api.ErrSyntax}, {"(if ())", api.ErrSyntax}, {"(\"syntax-rules\" ())", api.ErrSyntax},
		{"(syntax-rules () a)", api.ErrSyntax}, {"(syntax-rules () ())", api.ErrSyntax}, {"(syntax-rules () ((_)))", api.ErrSyntax}, {"(syntax-rules () ((_) 1 2))", api.ErrSyntax}, {"(syntax-rules () ((_) . 1))", api.ErrSyntax}, {"(syntax-rules () #((_) 1))", api.ErrSyntax},
		{"(syntax-rules () (_ 1))", api.ErrPat}, {"(syntax-rules () (() 1))", api.ErrPat}, {"(syntax-rules () ((_ a a) 1))", api.ErrPat}, {"(syntax-rules () ((_ ...) 1))", api.ErrPat}, {"(syntax-rules () ((_ a ... b ...) 1))", api.ErrPat},
		{"(syntax-rules () ((_ a ...) a))", api.ErrTmpl}, {"(syntax-rules () ((_ a) (a ...)))", api.ErrTmpl}, {"(syntax-rules () ((_) (1 ...)))", api.ErrTmpl},
		{"(syntax-rules (1) ((_) 1))", api.ErrArg}, {"(syntax-rules (a ...) ((_) 1))", api.ErrArg}, {"(syntax-rules (_) ((_) 1))", api.ErrArg}, {"(syntax-rules ((a)) ((_) 1))", api.ErrArg},
		// the shape, the identifier, the rules
		{"(syntax-rules^9 1)", api.ErrSyntax}, {"(syntax-rules^9)", api.ErrSyntax}, {"(syntax-rules^9 ())", api.ErrScope}, {"(syntax-rules^9 () a)", api.ErrScope}, {"(syntax-rules^9 () ((_ a a) 1))", api.ErrScope}, {"(rules () ((_ a a) 1))", api.ErrSyntax},
		// one rule after the other, its form ahead of the rest
		{"(syntax-rules () ((_ a a) 1) 5)", api.ErrPat}, {"(syntax-rules () 5 ((_ a a) 1))", api.ErrSyntax}, {"(syntax-rules () ((_ a) a) ((_ a ...) a) ((_ a a) 1))", api.ErrTmpl}, {"(syntax-rules () ((_ a a) 1) ((_ a ...) a))", api.ErrPat},
		{"(syntax-rules () ((_ a a) 1 2))", api.ErrSyntax}, {"(syntax-rules (1) ((_ a a) 1))", api.ErrArg}, {"(syntax-rules (1) (_ 1))", api.ErrPat}, {"(syntax-rules (1) 5)", api.ErrSyntax},
	} {
		for _, s := range []string{"(define-syntax m %)", "(let-syntax ((m %)) 1)", "(let-syntax ((l (syntax-rules ())) (m %) (n 5)) ())", "(begin 1 (define-syntax m %))"} {
			e := r.e
			if e == api.OK && strings.Contains(s, "(n 5)") {
				e = api.ErrSyntax
			}
			_, f := expand.New().Form(d(strings.ReplaceAll(s, "%", r.s)))
			if f != e {
				t.Errorf("%s: %d, not %d", strings.ReplaceAll(s, "%", r.s), int(f), int(e))
			}
		}
	}
	// A macro without a rule that fits, or without rules.
	rows(t, []string{"(define-syntax m (syntax-rules (1 ...)))"}, row{form: "(m)", e: api.ErrMatch}, row{form: "(m 1)", e: api.ErrMatch})
}

// P8.1: symbols that already have marks, whose macros and variables earlier forms made.
func TestGivenMarks(t *testing.T) {
	ahead := []string{"(lambda (x m) (let-syntax ((m (syntax-rules () ((_ a) (x a))))) (m 1)))"} // mark 1 is of the scope that binds x, and m
	rows(t, ahead,
		row{form: "y^1", core: "(global y)"},
		row{form: "(set! y^1 2)", core: "(assign y (const 2))"},
		row{form: "(define y^1 2)", core: "(define y (const 2))"},
		row{form: "(if^1 1 2)", core: "(if (const 1) (const 2) (const #f))"},
		row{form: "(quote^1^1 x^1)", core: "(const x)"},
		row{form: "(lambda (x^1) x^1 y)", core: "(lambda (3) (seq (local 3) (global y)))"},
		row{form: "(lambda (y) y^1)", core: "(lambda (3) (global y))"},
		row{form: "(lambda (y^1) y)", core: "(lambda (3) (global y))"},
		row{form: "(define x^1 2)", e: api.ErrSyntax},
		row{form: "(define (x^1) 2)", e: api.ErrSyntax},
		row{form: "(define if^1 2)", e: api.ErrSyntax},
		row{form: "(define-syntax x^1 (syntax-rules ()))", e: api.ErrSyntax},
		row{form: "(define-syntax if^1 (syntax-rules ()))", e: api.ErrSyntax},
		row{form: "(cond (else^1 1))", core: "(const 1)"},
		row{form: "(let-syntax^1 ((n (syntax-rules^1 () ((_) 1)))) (n))", core: "(const 1)"},
		row{form: "x^1", e: api.ErrCore},          // a variable whose CoLambda isn't there
		row{form: "(set! x^1 1)", e: api.ErrCore}, // likewise
		row{form: "x^2", e: api.ErrScope},
	)
	w := newTwin(t, ahead...)
	w.form(d("(define-syntax y^1 (syntax-rules () ((_) 1)))"))
	if l := slices.Collect(w.x.Macros()); !slices.Equal(l, []string{"y"}) {
		t.Error("Macros", l)
	}
	// A macro of an earlier form is still there for a symbol with a mark of its body.
	w = newTwin(t, "(let-syntax ((n (syntax-rules () ((_ a) (let-syntax ((k (syntax-rules () ((_) a)))) (k)))))) (let-syntax ((o (syntax-rules () ((_) (n 5))))) (o)))")
	for _, s := range []string{"(n^1 7)", "n^1", "(n 7)", "(n^2 7)", "(n^3 7)", "(define n^1 1)", "(k^2)", "(k^3)", "(set! n^1 2)"} {
		w.form(d(s))
	}
	if c, e := w.x.Form(d("(n^1 7)")); e != api.OK || text(c) != "(const 7)" {
		t.Errorf("(n^1 7) is %s, %d", brief(c), int(e))
	}
	// A mark that is made on the way.
	rows(t, []string{"(define-syntax m (syntax-rules () ((_ a) a)))"},
		row{form: "(m x^1)", core: "(global x)"},
		row{form: "(m x^2)", e: api.ErrScope},
		row{form: "(f x^1 (m 1))", e: api.ErrScope},
		row{form: "(f (m 1) x^1)", core: "(call (global f) (const 1) (global x))"},
	)
}

// P8.1, R2: a form that fails leaves nothing behind.
func TestUnchanged(t *testing.T) {
	w := newTwin(t, swap, "(define-syntax m (syntax-rules () ((_ a) (lambda (x) a))))", "(m 1)")
	for _, s := range []string{
		"(begin (define-syntax n (syntax-rules ())) (if))", "(begin (define swap! 1) ())", "(define swap! (if))", "(define (swap! x) (if))", "(define (swap! x x) 1)", "(begin (define-syntax m (syntax-rules () ((_ a) 2))) (m))", "(define-syntax m (syntax-rules () a))",
		"(lambda (x y) ())", "(or 1 2 ())", "(m (m ()))", "(begin (m 1) (m 2) (m))", "(let-syntax ((m (syntax-rules () ((_ a) a)))) (m 1) (m ()))", "(begin (m 1) x^99)", "(begin (define m 1) (define-syntax swap! (syntax-rules () ((_) 5))) (swap! 1))",
		"(lambda (a b c d e f g h i j k l m n o p q r s t u v w x y z aa bb cc dd ee ff gg) 1)",
	} {
		was := text(must(w.x.Clone().Form(d("(lambda (x) (m (swap! x y)) (or x x) (let-syntax ((n (syntax-rules () ((_ a) a)))) (n x)))"))))
		if c, e := w.x.Form(d(s)); e == api.OK || !none(c) {
			t.Errorf("%s is %s, %d", s, brief(c), int(e))
		}
		w.state()
		if l := slices.Collect(w.x.Macros()); !slices.Equal(l, []string{"m", "swap!"}) || w.x.Vars() != 1 {
			t.Errorf("after %s: %q, %d", s, l, w.x.Vars())
		}
		if _, e := w.x.Form(d("y^2")); e != api.ErrScope {
			t.Errorf("after %s there is a second mark", s)
		}
		if is := text(must(w.x.Clone().Form(d("(lambda (x) (m (swap! x y)) (or x x) (let-syntax ((n (syntax-rules () ((_ a) a)))) (n x)))")))); is != was {
			t.Errorf("after %s: %s, not %s", s, is, was)
		}
	}
	w.form(d("(f (m 1) y^2 (or x x))"))
}

func must(c api.Core, e api.Errno) api.Core {
	if e != api.OK {
		panic(e)
	}
	return c
}

// P8.2: Program.
func TestProgram(t *testing.T) {
	for _, r := range []struct {
		forms  string
		core   string
		n      int
		e      api.Errno
		macros string
		vars   int
	}{
		{"", "(const #f)", 0, api.OK, "", 0},
		{"1", "(seq (const 1))", 0, api.OK, "", 0},
		{"(begin 1 2) x", "(seq (seq (const 1) (const 2)) (global x))", 0, api.OK, "", 0},
		{"(define x 1) (begin (define y 2))", "(seq (define x (const 1)) (define y (const 2)))", 0, api.OK, "", 0},
		{swap + "(define y 1) (define z 2) (swap! y z)", "(seq (const #f) (define y (const 1)) (define z (const 2)) (call (lambda (1) (seq (assign y (global z)) (assign z (local 1)))) (global y)))", 0, api.OK, "swap!", 1},
		{"(lambda (x) x) (lambda (x) x)", "(seq (lambda (1) (local 1)) (lambda (2) (local 2)))", 0, api.OK, "", 2},
		{"(if)", "", 0, api.ErrSyntax, "", 0},
		{"1 (if) 2", "", 1, api.ErrSyntax, "", 0},
		{swap + "(lambda (x) x) (swap!) (define-syntax m (syntax-rules ()))", "", 2, api.ErrMatch, "swap!", 1},
		{swap + "(define swap! 1) (or 1 2) x^1", "", 3, api.ErrScope, "", 1},
		{"(begin (define-syntax m (syntax-rules ())) (lambda (x) 1) (if)) 1", "", 0, api.ErrSyntax, "", 0},
		{"1 2 (lambda (a b c d e f g h i j k l m n o p q r s t u v w x y z aa bb cc dd ee ff gg) 1) ()", "", 2, api.ErrCore, "", 0},
	} {
		x := expand.New()
		c, n, e := x.Program(ds(r.forms)...)
		if e != r.e || n != r.n || e == api.OK && text(c) != r.core || e != api.OK && !none(c) {
			t.Errorf("%s is %s, %d, %d, not %s, %d, %d", r.forms, brief(c), n, int(e), r.core, r.n, int(r.e))
		}
		if l := strings.Join(slices.Collect(x.Macros()), " "); l != r.macros || x.Vars() != r.vars {
			t.Errorf("after %s: %q, %d", r.forms, l, x.Vars())
		}
		newTwin(t).program(ds(r.forms)...)
	}
	if _, n, e := expand.New().Program(num(1), api.Datum{}, list()); n != 1 || e != api.ErrDatum {
		t.Error("of an invalid datum:", n, int(e))
	}
	// One program goes on where the one ahead of it ended.
	w := newTwin(t, swap)
	w.program(ds("(lambda (x) x) (swap! a b)")...)
	w.program()
	c, _, _ := w.program(ds("(lambda (x) x)")...)
	if text(c) != "(seq (lambda (3) (local 3)))" {
		t.Error(brief(c))
	}
}

// P8.2: the names of macros in order, the number of variables, and a clone that goes its own way.
func TestMacrosVarsClone(t *testing.T) {
	x := expand.New()
	for _, s := range []string{"z", "b", "a2", "a", "B", "a10", "~", "!", "ab", "..."} {
		if _, e := x.Form(d("(define-syntax " + s + " (syntax-rules () ((_) 7)))")); e != api.OK {
			t.Fatal(s, int(e))
		}
	}
	want := []string{"!", "...", "B", "a", "a10", "a2", "ab", "b", "z", "~"}
	all := x.Macros()
	for range 2 { // it may be gone through again
		if l := slices.Collect(all); !slices.Equal(l, want) {
			t.Errorf("Macros yields %q", l)
		}
	}
	many := 0
	for name := range all {
		if many++; name == "B" {
			break
		}
	}
	if many != 3 {
		t.Error("Macros goes on:", many)
	}
	y := x.Clone()
	for _, s := range []string{"(define b 1)", "(lambda (x y) 1)", "(define-syntax c (syntax-rules ()))", "(define-syntax z (syntax-rules () ((_) 8)))"} {
		must(y.Form(d(s)))
	}
	if l := slices.Collect(x.Macros()); !slices.Equal(l, want) || x.Vars() != 0 {
		t.Errorf("what was cloned is %q, %d", l, x.Vars())
	}
	if l := slices.Collect(all); !slices.Equal(l, want) {
		t.Errorf("Macros yields %q", l)
	}
	if l := strings.Join(slices.Collect(y.Macros()), " "); l != "! ... B a a10 a2 ab c z ~" || y.Vars() != 2 {
		t.Errorf("the clone is %q, %d", l, y.Vars())
	}
	must(x.Form(d("(define a 1)")))
	if l := slices.Collect(all); !slices.Equal(l, want) || slices.Contains(slices.Collect(x.Macros()), "a") {
		t.Errorf("Macros isn't of the time when it was called: %q", l)
	}
	if text(must(x.Form(d("(z)")))) != "(const 7)" || text(must(y.Form(d("(z)")))) != "(const 8)" || text(must(x.Form(d("(b)")))) != "(const 7)" || text(must(y.Form(d("(b)")))) != "(call (global b))" {
		t.Error("the clone and what was cloned have the same macros")
	}
	if text(must(x.Form(d("(lambda (x) x)")))) != "(lambda (1) (local 1))" || text(must(y.Form(d("(lambda (x) x)")))) != "(lambda (3) (local 3))" {
		t.Error("the clone and what was cloned have the same variables")
	}
	// Local macros, and marks, go their own way as well.
	v := newTwin(t, "(let-syntax ((n (syntax-rules () ((_ a) a)))) (n 1))")
	w := v.clone()
	for range 3 {
		v.form(d("(let-syntax ((m (syntax-rules () ((_) 1) ((_ a) (m a))))) (lambda (x) (m)))"))
		w.form(d("(let-syntax ((m (syntax-rules () ((_ a) x) ((_) 2)))) (let ((y (m))) (m y)))"))
		for _, s := range []string{"(m^2)", "(m^3 x^3)", "y^4", "(m^3^2)", "(lambda (x) x^2)", "(n^1 m^2)"} {
			v.form(d(s))
			w.form(d(s))
		}
	}
}

// P8.2: however many local macros there are when it is made, a clone has its own from then on.
func TestLocalMacrosOfClones(t *testing.T) {
	const form = "(let-syntax ((n (syntax-rules () ((_) #)))) (let-syntax ((o (syntax-rules () ((_) (n))))) (o)))"
	for many := range 10 {
		v := newTwin(t)
		for range many {
			v.form(d("(let-syntax ((k (syntax-rules () ((_) 0)))) 1)"))
		}
		w := v.clone()
		v.form(d(strings.Replace(form, "#", "1", 1)))
		w.form(d(strings.Replace(form, "#", "2", 1)))
		if a, b := must(v.form(d("(n^1)"))), must(w.form(d("(n^1)"))); text(a) != "(const 1)" || text(b) != "(const 2)" {
			t.Error(many, brief(a), brief(b))
		}
	}
}

// P8.2, R5: an expander that no function made.
func TestNotMade(t *testing.T) {
	for _, x := range []*expand.Expander{nil, {}} {
		if c, e := x.Form(num(1)); e != api.ErrMade || !none(c) {
			t.Error("Form", brief(c), int(e))
		}
		if c, e := x.Form(api.Datum{}); e != api.ErrMade || !none(c) {
			t.Error("Form of what is no datum", brief(c), int(e))
		}
		for _, l := range [][]api.Datum{nil, {num(1)}, {{}}, {num(1), num(2)}} {
			if c, n, e := x.Program(l...); e != api.ErrMade || n != 0 || !none(c) {
				t.Error("Program", brief(c), n, int(e))
			}
		}
		for name := range x.Macros() {
			t.Error("Macros", name)
		}
		if x.Vars() != 0 || x.Clone() != nil {
			t.Error("Vars", x.Vars(), "Clone", x.Clone())
		}
	}
}

// The example of the document.
func TestExample(t *testing.T) {
	x := expand.New()
	must(x.Form(d(swap)))
	c := must(x.Form(d("(lambda (tmp x) (swap! tmp x))")))
	k, _ := core.Datum(c)
	if s, _ := read.Print(k); s != "(lambda (1 2) (call (lambda (3) (seq (set 1 (local 2)) (set 2 (local 3)))) (local 1)))" {
		t.Error(s)
	}
}
