package expand_test

import (
	"slices"
	"testing"

	"shuttle/api"
	"shuttle/core"
	"shuttle/datum"
)

// occurs tells whether a symbol with this text is in a form.
func occurs(x api.Datum, text string) bool {
	is := false
	each(&x, func(x *api.Datum) { is = is || x.K == api.DSym && x.S == text })
	return is
}

// unquoted is an expression in whose constants each of these symbols is the same one.
func unquoted(c api.Core, texts ...string) api.Core {
	if c.K == api.CoConst {
		c.D = datum.Clone(c.D)
		each(&c.D, func(x *api.Datum) {
			if x.K == api.DSym && slices.Contains(texts, x.S) {
				x.S = "same"
			}
		})
	}
	c.L = slices.Clone(c.L)
	for i, x := range c.L {
		c.L[i] = unquoted(x, texts...)
	}
	return c
}

// known is an expander that has translated forms without marks.
func known(t *testing.T, g grower) *twin {
	w := newTwin(t)
	for range 6 {
		w.form(g.top(3))
	}
	return w
}

// P8.3: a parameter has whatever name, even a keyword's, a macro's, or one that macros introduce.
func TestRenaming(t *testing.T) {
	t.Parallel()
	right, wrong := 0, 0
	for seed := range 1500 {
		g := newGrower(seed+10000, 0)
		w := known(t, g)
		for range 8 {
			params := g.distinct(1, 3)
			form := list(append([]api.Datum{sym("lambda"), list(params...)}, g.some(1, 3, 3)...)...)
			old, name := params[g.pick(len(params))].S, one(g.picker, append(slices.Clone(words), "x", "y", "m", "n", "in", "else", "list", "syntax-rules", "q", "f")...)
			if occurs(form, name) {
				continue
			}
			renamed := datum.Clone(form)
			for i := range renamed.L[1:] {
				each(&renamed.L[i+1], func(x *api.Datum) {
					if x.K == api.DSym && x.S == old {
						x.S = name
					}
				})
			}
			a, e := w.clone().form(form)
			b, f := w.clone().form(renamed)
			if e != f || e == api.OK && !core.Alike(unquoted(a, old, name), unquoted(b, old, name)) {
				t.Fatalf("%s is %s, %d, but %s is %s, %d", textOf(form), brief(a), int(e), textOf(renamed), brief(b), int(f))
			}
			if e == api.OK {
				right++
			} else {
				wrong++
			}
		}
	}
	if right < 3000 || wrong < 1000 {
		t.Error("only so many are right, and wrong:", right, wrong)
	}
}

// P8.5: the parts of an if are translated as they are alone.
func TestCompositionality(t *testing.T) {
	t.Parallel()
	right := 0
	for seed := range 1500 {
		g := newGrower(seed+20000, 0)
		w := known(t, g)
		for range 8 {
			parts := g.some(3, 3, 3)
			c, e := w.clone().form(list(append([]api.Datum{sym("if")}, parts...)...))
			if e != api.OK {
				continue
			}
			right++
			if c.K != api.CoIf || len(c.L) != 3 {
				t.Fatalf("an if is %s", brief(c))
			}
			for i, x := range parts {
				if alone, e := w.clone().form(x); e != api.OK || !core.Alike(alone, c.L[i]) {
					t.Fatalf("%s is %s, %d, but within an if %s", textOf(x), brief(alone), int(e), brief(c.L[i]))
				}
			}
		}
	}
	if right < 3000 {
		t.Error("only so many are right:", right)
	}
}

// P8.1: what New answers is new each time, and each has variables, marks and macros of its own.
func TestApart(t *testing.T) {
	v, w := newTwin(t), newTwin(t)
	v.form(d("(define-syntax m (syntax-rules () ((_ a) (lambda (x) a))))"))
	v.form(d("(m (m 1))"))
	w.form(d("(m (m 1))"))
	w.form(d("(define-syntax m (syntax-rules () ((_ a) 2)))"))
	v.form(d("(m x^2)"))
	w.form(d("(m x^2)"))
	w.form(d("x^1"))
	w.form(d("(lambda (x) (m x))"))
	v.form(d("(lambda (x) (m x))"))
}
