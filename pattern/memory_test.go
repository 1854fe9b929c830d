package pattern_test

import (
	"testing"

	"shuttle/api"
	"shuttle/datum"
	"shuttle/pattern"
)

// scribble writes over all the memory that data have, and what their slices could grow into.
func scribble(l ...api.Datum) {
	for _, x := range l {
		for i := range x.M[:cap(x.M)] {
			x.M[:cap(x.M)][i] = 77
		}
		for _, inner := range [][]api.Datum{x.L[:cap(x.L)], x.T[:cap(x.T)]} {
			scribble(inner...)
			for i := range inner {
				inner[i] = api.Datum{K: 77}
			}
		}
	}
}

func scribbleGot(got []api.Got) {
	got = got[:cap(got)]
	for i, g := range got {
		scribble(g.ID, g.D)
		scribbleGot(g.L)
		got[i] = api.Got{Deep: 77}
	}
}

func cloneGot(got []api.Got) []api.Got {
	var l []api.Got
	for _, g := range got {
		l = append(l, api.Got{ID: datum.Clone(g.ID), Deep: g.Deep, D: datum.Clone(g.D), L: cloneGot(g.L)})
	}
	return l
}

// memory are the beginnings of all slices in what is given.
type memory struct {
	marks map[*int]bool
	data  map[*api.Datum]bool
	gots  map[*api.Got]bool
	twice bool
}

func (m *memory) datum(x api.Datum) {
	if len(x.M) > 0 {
		m.twice = m.twice || m.marks[&x.M[0]]
		m.marks[&x.M[0]] = true
	}
	for _, inner := range [][]api.Datum{x.L, x.T} {
		for i := range inner {
			m.twice = m.twice || m.data[&inner[i]]
			m.data[&inner[i]] = true
			m.datum(inner[i])
		}
	}
}

func (m *memory) got(got []api.Got) {
	for i, g := range got {
		m.twice = m.twice || m.gots[&got[i]]
		m.gots[&got[i]] = true
		m.datum(g.ID)
		m.datum(g.D)
		m.got(g.L)
	}
}

// apart tells whether no two slices of all these share memory.
func apart(gots [][]api.Got, data ...api.Datum) bool {
	m := &memory{map[*int]bool{}, map[*api.Datum]bool{}, map[*api.Got]bool{}, false}
	for _, got := range gots {
		m.got(got)
	}
	for _, x := range data {
		m.datum(x)
	}
	return !m.twice
}

// R3: what is answered shares no memory with an argument, nor with itself, and arguments aren't changed.
func TestOwnMemory(t *testing.T) {
	lits := []api.Datum{sym("else", 1, 2)}
	rule := api.Rule{
		Pat:  d("(m^1 else^1^2 a^1 ((b^1^2 c^3 ...) ...) #(e^4 ...) . f^5)"),
		Tmpl: d("(x^1 a^1 a^1 (b^1^2 c^3 ... y^1^2) ... (z^1 e^4) ... #(e^4 ...) f^5 . f^5)"),
	}
	form := d("(m else (p^1 q^2) ((1 (2 r^3) #(3 s)) (4 () t^1^2)) #(5 (u^1)) (6 v^1) w^1 . z^1)")
	kept := []api.Datum{datum.Clone(lits[0]), datum.Clone(rule.Pat), datum.Clone(rule.Tmpl), datum.Clone(form)}
	args := []api.Datum{lits[0], rule.Pat, rule.Tmpl, form}
	rest, _ := datum.Cdr(rule.Pat)
	restForm, _ := datum.Cdr(form)
	args = append(args, rest, restForm)
	kept = append(kept, datum.Clone(rest), datum.Clone(restForm))
	unchanged := func(what string) {
		t.Helper()
		for i := range args {
			if !equal(args[i], kept[i]) {
				t.Fatalf("%s: an argument was changed: %s", what, text(kept[i]))
			}
		}
	}
	odd := func(lit, x api.Datum) bool { // what it is given is its own
		is := lit.S == x.S
		scribble(lit, x)
		return is
	}
	want, wantOK := oracle{lits: lits, same: texts}.match(rest, restForm)
	wantBuilt, e := build(rule.Tmpl, want, 9)
	if !wantOK || e != api.OK {
		t.Fatal(wantOK, int(e))
	}
	for range 2 {
		vars, e := pattern.Vars(lits, rest)
		if e != api.OK || !apart([][]api.Got{vars}, args...) {
			t.Error("Vars", int(e))
		}
		scribbleGot(vars)
		unchanged("Vars")
		if e := pattern.Check(lits, rule); e != api.OK {
			t.Error("Check", int(e))
		}
		unchanged("Check")
		got, ok := pattern.Match(lits, rest, restForm, odd)
		if !ok || !equalGot(got, want) || !apart([][]api.Got{got}, args...) {
			t.Error("Match", ok, show(got))
		}
		unchanged("Match")
		keptGot := cloneGot(got)
		b, e := pattern.Build(rule.Tmpl, got, 9)
		if e != api.OK || !equal(b, wantBuilt) || !apart([][]api.Got{got}, append([]api.Datum{b}, args...)...) {
			t.Error("Build", text(b), int(e))
		}
		scribble(b)
		if !equalGot(got, keptGot) {
			t.Error("Build: the bindings were changed")
		}
		unchanged("Build")
		scribbleGot(got)
		unchanged("Match")
		x, n, e := pattern.Expand(lits, form, 9, odd, rule)
		if e != api.OK || n != 0 || !equal(x, wantBuilt) || !apart(nil, append([]api.Datum{x}, args...)...) {
			t.Error("Expand", text(x), int(e))
		}
		scribble(x)
		unchanged("Expand")
	}
}

// R3: what slices of arguments could grow into isn't touched.
func TestRoomBehindArguments(t *testing.T) {
	roomy := func(x api.Datum) api.Datum {
		x = datum.Clone(x)
		each(&x, func(x *api.Datum) {
			m, l, tail := make([]int, len(x.M), len(x.M)+3), make([]api.Datum, len(x.L), len(x.L)+3), make([]api.Datum, len(x.T), len(x.T)+3)
			copy(m, x.M)
			copy(l, x.L)
			copy(tail, x.T)
			x.M, x.L, x.T = m, l, tail
		})
		return x
	}
	clean := func(x api.Datum) bool {
		ok := true
		each(&x, func(x *api.Datum) {
			for _, m := range x.M[len(x.M):cap(x.M)] {
				ok = ok && m == 0
			}
			for _, l := range [][]api.Datum{x.L[len(x.L):cap(x.L)], x.T[len(x.T):cap(x.T)]} {
				for _, y := range l {
					ok = ok && none(y)
				}
			}
		})
		return ok
	}
	tmpl, pat, form := roomy(d("(x^1 a . b)")), roomy(d("(m a . b)")), roomy(d("(m (1) 2 3 . 4)"))
	got := []api.Got{{ID: roomy(sym("a")), D: roomy(d("(1 x^1)"))}, {ID: roomy(sym("b")), D: roomy(d("(2 3 . 4)"))}}
	if x, e := pattern.Build(tmpl, got, 2); e != api.OK || text(x) != "(x^1^2 (1 x^1) 2 3 . 4)" {
		t.Error(text(x), int(e))
	}
	if x, _, e := pattern.Expand(nil, form, 2, texts, api.Rule{Pat: pat, Tmpl: tmpl}); e != api.OK || text(x) != "(x^1^2 (1) 2 3 . 4)" {
		t.Error(text(x), int(e))
	}
	for _, x := range []api.Datum{tmpl, pat, form, got[0].ID, got[0].D, got[1].ID, got[1].D} {
		if !clean(x) {
			t.Error("something was written behind", text(x))
		}
	}
}

// P1, P6.2: a test for literals that changes the form while it is matched has no say in what is matched.
func TestSameThatChangesTheForm(t *testing.T) {
	form := d("(else (1 . 2) (x y . z) 5)")
	kept := datum.Clone(form)
	ruin := func(lit, x api.Datum) bool {
		form.L[1] = api.Datum{K: api.DDot, L: []api.Datum{num(1)}}
		form.L[2].T[0] = api.Datum{K: 9}
		form.L[2].L[0].L = []api.Datum{form}
		form.L[3] = api.Datum{K: api.DDot}
		return true
	}
	pat := d("(else (a . b) (c . e) f)")
	got, ok := pattern.Match(ds("else"), pat, form, ruin)
	want, _ := oracle{lits: ds("else"), same: texts}.match(pat, kept)
	if !ok || !equalGot(got, want) {
		t.Error(ok, show(got))
	}
}

// R3: what same does with what it is given makes no difference to the next rule.
func TestSameThatChangesItsArguments(t *testing.T) {
	odd := func(lit, x api.Datum) bool {
		scribble(lit, x)
		return true
	}
	lits := []api.Datum{sym("else", 1)}
	rules := []api.Rule{{Pat: d("(m else^1 5)"), Tmpl: d("1")}, {Pat: d("(m a b)"), Tmpl: d("(a b else^1)")}, {Pat: d("(m else^1 b c)"), Tmpl: d("(b else^1)")}}
	if x, n, e := pattern.Expand(lits, d("(m y^2 6)"), 3, odd, rules...); e != api.OK || n != 1 || text(x) != "(y^2 6 else^1^3)" {
		t.Error(text(x), n, int(e))
	}
	if x, n, e := pattern.Expand(lits, d("(m y^2 6 7)"), 3, odd, rules...); e != api.OK || n != 2 || text(x) != "(6 else^1^3)" {
		t.Error(text(x), n, int(e))
	}
}

// R4: the same calls have the same answers.
func TestAgain(t *testing.T) {
	for seed := range 300 {
		m := newMaker(seed + 40000)
		pat := m.pattern(4)
		form := m.like(pat, 1000)
		lits := ds("else")
		vars, e := pattern.Vars(lits, pat)
		if e != api.OK {
			continue
		}
		tmpl := m.template(vars, 3, 0)
		got, ok := pattern.Match(lits, pat, form, texts)
		b, e := pattern.Build(tmpl, got, 3)
		for range 3 {
			vars2, _ := pattern.Vars(lits, pat)
			got2, ok2 := pattern.Match(lits, pat, form, texts)
			b2, e2 := pattern.Build(tmpl, got, 3)
			if !equalGot(vars, vars2) || ok != ok2 || !equalGot(got, got2) || e != e2 || !equal(b, b2) {
				t.Fatal(text(pat), text(form), text(tmpl))
			}
		}
	}
}

// R6: a slice that is nil and one that is empty are the same.
func TestNilOrEmpty(t *testing.T) {
	empty := func(x api.Datum) api.Datum {
		x = datum.Clone(x)
		each(&x, func(x *api.Datum) {
			if len(x.M) == 0 {
				x.M = []int{}
			}
			if len(x.L) == 0 {
				x.L = []api.Datum{}
			}
			if len(x.T) == 0 {
				x.T = []api.Datum{}
			}
		})
		return x
	}
	pat, form, tmpl := empty(d("(m () #() else a b ...)")), empty(d("(m () #() else 1)")), empty(d("(a b ... () x)"))
	rule := api.Rule{Pat: pat, Tmpl: tmpl}
	if x, n, e := pattern.Expand([]api.Datum{empty(sym("else"))}, form, 1, texts, rule, api.Rule{Pat: d("(m)"), Tmpl: d("1")}); e != api.OK || n != 0 || text(x) != "(1 () x^1)" {
		t.Error(text(x), n, int(e))
	}
	if x, _, e := pattern.Expand([]api.Datum{}, form, 1, texts, []api.Rule{}...); e != api.ErrMatch || !none(x) {
		t.Error(text(x), int(e))
	}
	got := []api.Got{{ID: empty(sym("a")), D: empty(num(1)), L: []api.Got{}}, {ID: empty(sym("b")), Deep: 1, D: api.Datum{M: []int{}, L: []api.Datum{}, T: []api.Datum{}}, L: []api.Got{}}}
	if x, e := pattern.Build(tmpl, got, 1); e != api.OK || text(x) != "(1 () x^1)" {
		t.Error(text(x), int(e))
	}
	if x, e := pattern.Build(d("x"), []api.Got{}, 1); e != api.OK || text(x) != "x^1" {
		t.Error(text(x), int(e))
	}
}
