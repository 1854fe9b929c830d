package expand_test

import (
	"slices"
	"testing"

	"shuttle/api"
	"shuttle/datum"
	"shuttle/expand"
)

// scribble writes over all the memory that expressions have, and what their slices could grow into.
func scribble(l ...api.Core) {
	for _, c := range l {
		scribbleData(c.D)
		for i := range c.P[:cap(c.P)] {
			c.P[:cap(c.P)][i] = 77
		}
		inner := c.L[:cap(c.L)]
		scribble(inner...)
		for i := range inner {
			inner[i] = api.Core{K: 77}
		}
	}
}

func scribbleData(l ...api.Datum) {
	for _, x := range l {
		for i := range x.M[:cap(x.M)] {
			x.M[:cap(x.M)][i] = 77
		}
		for _, inner := range [][]api.Datum{x.L[:cap(x.L)], x.T[:cap(x.T)]} {
			scribbleData(inner...)
			for i := range inner {
				inner[i] = api.Datum{K: 77}
			}
		}
	}
}

// memory are the places of all elements of slices in what is given.
type memory struct {
	places map[any]bool
	twice  bool
}

func (m *memory) add(place any) {
	m.twice = m.twice || m.places[place]
	m.places[place] = true
}

func (m *memory) datum(x api.Datum) {
	for i := range x.M {
		m.add(&x.M[i])
	}
	for _, inner := range [][]api.Datum{x.L, x.T} {
		for i := range inner {
			m.add(&inner[i])
			m.datum(inner[i])
		}
	}
}

func (m *memory) core(c api.Core) {
	m.datum(c.D)
	for i := range c.P {
		m.add(&c.P[i])
	}
	for i := range c.L {
		m.add(&c.L[i])
		m.core(c.L[i])
	}
}

// all are forms of all sorts; some use what those ahead of them defined.
var all = []string{
	"(define-syntax m (syntax-rules (in) ((_ x in y) (lambda (x z) y #(a ((b) . c)) '(x y #(z)))) ((_ a ...) (f '(a ...) '(a ...) #(1 (2))))))",
	"(m v in (v z))",
	"(define (g x . y) (m x y '(p q)) (set! x (or y x z)) (cond (x '(1 2)) (y) (else #(3 (4)))))",
	"(let-syntax ((n (syntax-rules () ((_ a) (let* ((x a) (y '(a b))) (m x y)))))) (n '(1 #(2))) (letrec ((n n^1) (o '(5))) (and n o)))",
	"(begin (define h '(x (y) . #(z))) (when h #(h)) (unless #(h) h (m n in '(n (n)))))",
	"(m in in in)",
	"(quote x^1^2)",
	"(let ((a '((b) c)) (b #((1)))) (m a b) (lambda a (m b a)))",
	"#(x^1 (y^2 . z^1))",
	"(m)",
}

// R3: answers share no memory with the forms, with each other, or with the expander; forms don't change.
func TestMemory(t *testing.T) {
	for round := range 2 {
		x, m := expand.New(), newModel()
		seen := &memory{places: map[any]bool{}}
		var forms []api.Datum
		for _, s := range all {
			form := d(s)
			c, e := x.Form(form)
			want, f := m.form(d(s))
			if e != f || !equal(c, want) || !equalDatum(form, d(s)) {
				t.Fatalf("%s is %s, %d, not %s, %d", s, brief(c), int(e), brief(want), int(f))
			}
			seen.datum(form)
			seen.core(c)
			if seen.twice {
				t.Fatalf("%s: memory is shared", s)
			}
			forms = append(forms, form)
			if round == 0 {
				scribble(c)
				scribbleData(forms...)
				forms = nil
			}
		}
	}
	// Program as well.
	x, m := expand.New(), newModel()
	var forms []api.Datum
	for _, s := range all {
		forms = append(forms, d(s))
	}
	seen := &memory{places: map[any]bool{}}
	for range 3 {
		c, _, e := x.Program(forms...)
		want, _, f := m.program(forms...)
		if e != f || !equal(c, want) || e != api.OK {
			t.Fatalf("%s, %d, not %s, %d", brief(c), int(e), brief(want), int(f))
		}
		seen.core(c)
		for _, x := range forms {
			if !slices.ContainsFunc(all, func(s string) bool { return equalDatum(x, d(s)) }) {
				t.Fatalf("a form has changed into %s", textOf(x))
			}
		}
		if seen.twice {
			t.Fatal("memory is shared")
		}
		scribble(c)
		seen = &memory{places: map[any]bool{}}
	}
	scribbleData(forms...)
	if c, e := x.Form(d("(m 1 2)")); e != api.OK || text(c) != text(must(m.form(d("(m 1 2)")))) {
		t.Error("a macro has changed with the form:", brief(c), int(e))
	}
}

// roomy is an equal datum whose slices could grow into what is behind them, and a test whether nothing did.
func roomy(x api.Datum) (api.Datum, func() bool) {
	tests := []func() bool{}
	data := func(l []api.Datum) []api.Datum {
		room := append(slices.Clone(l), num(55), num(55))
		tests = append(tests, func() bool { return equalDatum(list(room[len(l):]...), list(num(55), num(55))) })
		return room[:len(l)]
	}
	x = datum.Clone(x)
	each(&x, func(x *api.Datum) {
		marks := append(slices.Clone(x.M), 55)
		tests = append(tests, func() bool { return marks[len(marks)-1] == 55 })
		x.M, x.L, x.T = marks[:len(marks)-1], data(x.L), data(x.T)
	})
	return x, func() bool { return !slices.ContainsFunc(tests, func(test func() bool) bool { return !test() }) }
}

// R3: nothing is written behind what forms have either.
func TestRoomBehindForms(t *testing.T) {
	x := expand.New()
	for _, s := range append(slices.Clone(all), "(lambda (x . y) 1)", "(lambda (x y . z) z)", "(define (f . x) 1)", "(define (f x . y) 1)", "(or 1 2 3)", "(let* ((x 1) (y 2)) 3 4)", "(m x . y)", "(m x (y . z))", "(if 1 2)", "(set! x 1)", "(letrec ((x 1)) 2 3)") {
		form, untouched := roomy(d(s))
		x.Form(form)
		x.Program(form, form)
		if !equalDatum(form, d(s)) || !untouched() {
			t.Errorf("%s has changed", s)
		}
	}
}

// R4: the same calls have the same answers, also those that clones and new expanders give.
func TestAgain(t *testing.T) {
	for seed := range 40 {
		g := newGrower(seed+30000, 3)
		x, y := expand.New(), expand.New()
		for range 20 {
			form := g.top(4)
			again := x.Clone()
			c, e := x.Form(form)
			for _, z := range []*expand.Expander{y, again, again.Clone()} {
				if b, f := z.Form(datum.Clone(form)); z == y || z == again {
					if f != e || !equal(b, c) || z.Vars() != x.Vars() || !slices.Equal(slices.Collect(z.Macros()), slices.Collect(x.Macros())) {
						t.Fatalf("%s is %s, %d, and %s, %d", textOf(form), brief(c), int(e), brief(b), int(f))
					}
				}
			}
		}
	}
}

// R6: nil slices and empty ones make no difference.
func TestEmptyOrNil(t *testing.T) {
	// empty replaces all slices without elements; nothing is nil then.
	var empty func(x api.Datum) api.Datum
	empty = func(x api.Datum) api.Datum {
		x.M, x.T = append([]int{}, x.M...), append([]api.Datum{}, x.T...)
		l := make([]api.Datum, 0, 5)
		for _, y := range x.L {
			l = append(l, empty(y))
		}
		x.L = l
		for i, y := range x.T {
			x.T[i] = empty(y)
		}
		return x
	}
	x, y := expand.New(), expand.New()
	for _, s := range append(slices.Clone(all), "()", "(f ())", "(lambda () 1)", "(let () 1)", "(let* () 1)", "(letrec () 1)", "(let-syntax () 1)", "(define-syntax k (syntax-rules ()))", "(k)", "(define (f) 1)", "(and)", "(or)", "(cond)", "(cond ())", "'()", "#()", "(begin)", "(lambda (x x) 1)", "(let ((x 1) (x 2)) 3)") {
		a, e := x.Form(d(s))
		b, f := y.Form(empty(d(s)))
		if e != f || !equal(a, b) {
			t.Errorf("%s is %s, %d, and with empty slices %s, %d", s, brief(a), int(e), brief(b), int(f))
		}
	}
	a, n, e := x.Program([]api.Datum{}...)
	if b, m, f := x.Program(nil...); n != m || e != f || !equal(a, b) {
		t.Error("a program of no forms:", brief(a), n, int(e), brief(b), m, int(f))
	}
}
