package expand_test

import (
	"slices"
	"strings"
	"testing"

	"shuttle/api"
	"shuttle/core"
	"shuttle/datum"
)

// macros are definitions that mixed forms draw from. Some of their names are what the forms bind, and some of them define macros.
var macros = []string{
	"(syntax-rules ())",
	"(syntax-rules () ((_ a) a))",
	"(syntax-rules () ((_ a) (quote a)) ((_ a b) (f a b x)))",
	"(syntax-rules () ((_ a b) (let ((x a)) (set! x b) x)))",
	"(syntax-rules () ((_ a ...) (lambda (x) (list x a ...))))",
	"(syntax-rules () ((_) #f) ((_ a) a) ((_ a b ...) (let ((x a)) (if x x (m b ...)))))",
	"(syntax-rules () ((_ (a b) ...) (let* ((a b) ...) x a ...)) ((_ a ...) (begin a ... y)))",
	"(syntax-rules (in y) ((_ a in b) (lambda (a) b in)) ((_ y) (quote y)) ((_ b) b))",
	"(syntax-rules (else) ((_ else) 1) ((_ e) (cond (e 1))) ((_ e a) (cond (e a) (else x))))",
	"(syntax-rules () ((_ k) (define k x)) ((_ k v) (begin (define k v) (define y v))))",
	"(syntax-rules () ((_ k) (define-syntax k (syntax-rules () ((_ a) (y a k x)) ((_) x)))))",
	"(syntax-rules () ((_ k v) (let-syntax ((k (syntax-rules (v) ((_ v) 1) ((_ y) (f v y x))))) (lambda (x) (k v) (k x)))))",
	"(syntax-rules (if) ((_ if a) (if a 1 2)) ((_ a b) (let ((if a)) (if b x))))",
	"(syntax-rules () ((_ . a) (quote a)))",
	"(syntax-rules () ((m a) (n a)) ((m a b) (m b)))",
	"(syntax-rules () ((_ a) (let-syntax ((n (syntax-rules () ((_ b) (let ((x b)) a))))) (n a))))",
}

// grower makes mixed forms; marks is how many marks their symbols may have.
type grower struct {
	*picker
	marks int
	words []string // keywords and the like
}

var names = strings.Fields("x y m n f in else if")

func newGrower(seed, marks int) grower {
	return grower{newPicker(seed), marks, append(strings.Fields("let let* letrec lambda let-syntax set! begin and or cond when unless quote if if"), "call", "call", "m", "m", "n", "f")}
}

func (g grower) name() api.Datum {
	x := sym(names[g.pick(len(names))])
	if g.pick(4) > 0 {
		x.S = names[g.pick(5)]
	}
	if g.marks > 0 && g.pick(12) == 0 {
		x.M = append(x.M, 1+g.pick(g.marks))
	}
	return x
}

func (g grower) atom() api.Datum {
	switch g.pick(12) {
	case 0:
		return one(g.picker, api.Datum{K: api.DBool, N: 1}, api.Datum{K: api.DChar, N: 97}, api.Datum{K: api.DStr, S: "s"})
	case 1:
		return vec(g.name(), num(2))
	case 2, 3:
		return num(int64(g.pick(3)))
	}
	return g.name()
}

// some are from so many to so many forms.
func (g grower) some(least, most, deep int) []api.Datum {
	var l []api.Datum
	for range least + g.pick(most-least+1) {
		l = append(l, g.form(deep))
	}
	return l
}

func (g grower) distinct(least, most int) []api.Datum {
	var l []api.Datum
	for range least + g.pick(most-least+1) {
		if x := g.name(); !slices.ContainsFunc(l, func(y api.Datum) bool { return key(x) == key(y) }) {
			l = append(l, x)
		}
	}
	return l
}

func (g grower) params() api.Datum {
	l := g.distinct(0, 3)
	if len(l) > 0 && g.pick(4) == 0 {
		if len(l) == 1 {
			return l[0]
		}
		return dot(l[0], l[1:]...)
	}
	return list(l...)
}

func (g grower) bindings(value func() api.Datum) api.Datum {
	var l []api.Datum
	for _, x := range g.distinct(0, 2) {
		l = append(l, list(x, value()))
	}
	return list(l...)
}

// definition is one of the macros, now and then with other names.
func (g grower) definition() api.Datum {
	x := d(macros[g.pick(len(macros))])
	for range g.pick(2) {
		a, b := g.name(), g.name()
		each(&x, func(x *api.Datum) {
			if x.K == api.DSym && x.S == a.S {
				*x = b
			}
		})
	}
	return x
}

func (g grower) form(deep int) api.Datum {
	if deep == 0 || g.pick(5) == 0 {
		return g.atom()
	}
	deep--
	word := g.words[g.pick(len(g.words))]
	head := sym(word)
	if g.marks > 0 && g.pick(20) == 0 {
		head.M = []int{1 + g.pick(g.marks)}
	}
	switch word {
	case "let", "let*", "letrec":
		return list(append([]api.Datum{head, g.bindings(func() api.Datum { return g.form(deep) })}, g.some(1, 2, deep)...)...)
	case "let-syntax":
		return list(append([]api.Datum{head, g.bindings(g.definition)}, g.some(1, 2, deep)...)...)
	case "lambda":
		return list(append([]api.Datum{head, g.params()}, g.some(1, 2, deep)...)...)
	case "set!":
		return list(head, g.name(), g.form(deep))
	case "cond":
		return list(append([]api.Datum{head}, g.clauses(deep)...)...)
	case "when", "unless", "if":
		return list(append([]api.Datum{head}, g.some(2, 3, deep)...)...)
	case "begin":
		return list(append([]api.Datum{head}, g.some(1, 3, deep)...)...)
	case "quote":
		return list(head, g.form(deep))
	case "call":
		return list(g.some(1, 3, deep)...)
	}
	return list(append([]api.Datum{head}, g.some(0, 3, deep)...)...)
}

func (g grower) clauses(deep int) []api.Datum {
	var l []api.Datum
	for range g.pick(3) {
		l = append(l, list(g.some(1, 2, deep)...))
	}
	if g.pick(2) == 0 {
		l = append(l, list(append([]api.Datum{sym("else")}, g.some(1, 2, deep)...)...))
	}
	return l
}

// top is a form for the top level.
func (g grower) top(deep int) api.Datum {
	switch g.pick(8) {
	case 0:
		return list(sym("define"), g.name(), g.form(deep))
	case 1:
		return list(append([]api.Datum{sym("define"), list(append([]api.Datum{g.name()}, g.distinct(0, 2)...)...)}, g.some(1, 2, deep)...)...)
	case 2, 3:
		return list(sym("define-syntax"), sym(one(g.picker, "m", "n", "m", "n", "y", "in", "else", "if")), g.definition())
	case 4:
		return list(sym("begin"), g.top(deep), g.top(deep))
	}
	return g.form(deep)
}

// hurt changes something of a form, which is mostly wrong then.
func (g grower) hurt(x api.Datum) api.Datum {
	x = datum.Clone(x)
	at := g.pick(datum.Size(x))
	each(&x, func(y *api.Datum) {
		if at--; at != -1 {
			return
		}
		switch g.pick(7) {
		case 0:
			*y = g.atom()
		case 1:
			*y = list()
		case 2:
			*y = sym(one(g.picker, words...))
		case 3:
			if len(y.L) > 0 {
				k := g.pick(len(y.L))
				y.L = slices.Delete(y.L, k, k+1)
			}
		case 4:
			if len(y.L) > 0 {
				y.L = append(y.L, y.L[g.pick(len(y.L))])
			}
		case 5:
			if y.K == api.DSym && g.marks > 0 {
				y.M = append(y.M, 1+g.pick(g.marks))
			}
		case 6:
			if last := len(y.L) - 1; y.K == api.DList && last > 0 && y.L[last].K != api.DList && y.L[last].K != api.DDot {
				*y = dot(y.L[last], y.L[:last]...)
			}
		}
	})
	return x
}

// inner makes four marks, of scopes that bind what mixed forms name.
const inner = "(lambda (x y) (let-syntax ((m (syntax-rules () ((_ a) (a x)) ((_) y))) (n (syntax-rules () ((_ a) (let-syntax ((in (syntax-rules () ((_) 7)))) (lambda (f) (in))))))) (m 1) (lambda (else) (m)) (n 2)))"

// P8.1, P8.2, P8.4: mixed forms one after the other, right and wrong ones, with marks that are made and others that aren't.
func TestMixedForms(t *testing.T) {
	t.Parallel()
	count := map[int]int{}
	for seed := range 700 {
		g := newGrower(seed, seed%4*3)
		w := newTwin(t)
		bound := map[int]int{}
		if seed%8 > 3 {
			c, e := w.form(d(inner))
			closed(t, w, c, e, bound)
		}
		for range 25 {
			x := g.top(1 + g.pick(4))
			if g.pick(3) == 0 {
				x = g.hurt(x)
			}
			c, e := w.form(x)
			count[int(e)]++
			closed(t, w, c, e, bound)
		}
	}
	t.Log(count)
	for e, least := range map[int]int{0: 6000, 80: 2000, 50: 150, 63: 500, 60: 20, 61: 10, 70: 5} {
		if count[e] < least {
			t.Errorf("only %d are %d", count[e], e)
		}
	}
}

// closed holds P8.4: what was translated is valid, and binds no variable that was bound before.
func closed(t *testing.T, w *twin, c api.Core, e api.Errno, bound map[int]int) {
	t.Helper()
	if e != api.OK {
		return
	}
	if e := core.Check(c); e != api.OK {
		t.Fatalf("%s is no valid core expression: %d", brief(c), int(e))
	}
	for x := range core.All(c) {
		for _, v := range x.P {
			if bound[v]++; bound[v] > 1 || v > w.x.Vars() {
				t.Fatalf("%s binds %d again, of %d", brief(c), v, w.x.Vars())
			}
		}
	}
}

// P8.2: mixed programs, and clones that go their own way.
func TestMixedPrograms(t *testing.T) {
	t.Parallel()
	whole, parts, apart := 0, 0, 0
	for seed := range 400 {
		g := newGrower(seed+5000, seed%3*2)
		l := []*twin{newTwin(t)}
		for range 12 {
			w := l[g.pick(len(l))]
			if g.pick(4) == 0 {
				l = append(l, w.clone())
			}
			var forms []api.Datum
			for range g.pick(4) {
				x := g.top(1 + g.pick(3))
				if g.pick(8) == 0 {
					x = g.hurt(x)
				}
				forms = append(forms, x)
			}
			if _, n, e := w.program(forms...); e == api.OK {
				whole++
			} else if n > 0 {
				parts++
			}
		}
		for _, w := range l {
			w.state()
			if w.x.Vars() != l[0].x.Vars() {
				apart++
			}
		}
	}
	if whole < 1200 || parts < 600 || apart < 500 {
		t.Error("only so many are whole, and have parts; so many clones are apart:", whole, parts, apart)
	}
}
