package pattern_test

import (
	"slices"
	"testing"

	"shuttle/api"
	"shuttle/datum"
	"shuttle/pattern"
)

var dots = sym("...")

// P6.1: Vars of all small data, as patterns.
func TestAllSmallPatterns(t *testing.T) {
	t.Parallel()
	patterns := 0
	for _, o := range []oracle{{}, {lits: ds("b")}, {lits: ds("c b^1 a")}} {
		for _, pat := range upTo(5, []api.Datum{sym("a"), sym("b"), dots, sym("_")}) {
			vars, e := pattern.Vars(o.lits, pat)
			o.holdVars(t, vars, e, pat)
			if e == api.OK {
				patterns++
			}
		}
		for _, pat := range upTo(6, []api.Datum{sym("a"), dots}) {
			vars, e := pattern.Vars(o.lits, pat)
			o.holdVars(t, vars, e, pat)
		}
		for _, pat := range upTo(4, []api.Datum{sym("a"), sym("b", 1), sym("...", 1), dots, sym("_", 2), num(1)}) {
			vars, e := pattern.Vars(o.lits, pat)
			o.holdVars(t, vars, e, pat)
		}
	}
	if patterns < 5000 {
		t.Error("only so many patterns:", patterns)
	}
}

// P6.1: Check of all small data, as templates of some patterns, and as whole patterns.
func TestAllSmallTemplates(t *testing.T) {
	t.Parallel()
	templates := 0
	tmpls := slices.Concat(upTo(4, []api.Datum{sym("a"), sym("b"), dots, sym("x")}), upTo(5, []api.Datum{sym("a"), sym("b"), dots}))
	for _, pat := range []string{"(m)", "(m a)", "(m b ...)", "(m a b ...)", "(m (a b ...) ...)", "(m ((b ...) ...) a)", "(m . a)"} {
		o, pat := oracle{}, d(pat)
		for _, tmpl := range tmpls {
			r := api.Rule{Pat: pat, Tmpl: tmpl}
			e := pattern.Check(nil, r)
			if want := o.check(r); e != want {
				t.Fatalf("Check(%s, %s) is %d, not %d", text(pat), text(tmpl), int(e), int(want))
			}
			if e == api.OK {
				templates++
			}
		}
	}
	for _, pat := range upTo(5, []api.Datum{sym("a"), sym("b"), dots}) {
		for _, o := range []oracle{{}, {lits: ds("b")}} {
			for _, tmpl := range []string{"1", "a", "(a ...)", "(... a)"} {
				r := api.Rule{Pat: pat, Tmpl: d(tmpl)}
				if e, want := pattern.Check(o.lits, r), o.check(r); e != want {
					t.Fatalf("Check(%s, %s) is %d, not %d", text(pat), tmpl, int(e), int(want))
				}
			}
		}
	}
	if templates < 5000 {
		t.Error("only so many templates:", templates)
	}
}

// holdMatch holds Match against the definition, and answers whether the form matches.
func (o oracle) holdMatch(t *testing.T, pat, form api.Datum) ([]api.Got, bool) {
	t.Helper()
	got, ok := pattern.Match(o.lits, pat, form, o.same)
	want, is := o.match(pat, form)
	if ok != is || !equalGot(got, want) {
		t.Fatalf("Match(%s, %s) is %v, %s, not %v, %s", text(pat), text(form), ok, show(got), is, show(want))
	}
	return got, ok
}

// P6.2, P6.5: Match of all small forms with all small patterns; of those without literals and wildcards, Build is the form again.
func TestAllSmallMatches(t *testing.T) {
	t.Parallel()
	o := oracle{lits: ds("e"), same: texts}
	matches, again := 0, 0
	hold := func(pats, forms []api.Datum) {
		for _, pat := range pats {
			if _, e := o.vars(pat); e != api.OK {
				continue
			}
			for _, form := range forms {
				got, ok := o.holdMatch(t, pat, form)
				if !ok {
					continue
				}
				matches++
				if bare(pat) && inverse(t, pat, form, got) {
					again++
				}
			}
		}
	}
	hold(upTo(4, []api.Datum{sym("a"), sym("b"), dots, sym("e"), sym("_"), num(1)}), upTo(3, []api.Datum{num(1), sym("e", 1), sym("f")}))
	hold(upTo(4, []api.Datum{sym("a"), sym("b"), dots}), upTo(4, []api.Datum{num(1), num(2)}))
	hold(upTo(5, []api.Datum{sym("a"), sym("b"), dots}), append(upTo(3, []api.Datum{num(1)}), ds("(1 2 3) ((1) (2 3)) (() ()) #(1 2 3) (#(1) #()) ((1 . 2) (3)) (1 2 . 3) ((1 2) 3 4 . 5) (1 (2 3))")...))
	if matches < 10000 || again < 5000 {
		t.Error("only so many match, and are built again:", matches, again)
	}
}

// bare tells whether a pattern has neither literals nor wildcards.
func bare(pat api.Datum) bool {
	return !slices.ContainsFunc(places(pat), func(p place) bool {
		return p.node.K == api.DSym && (p.node.S == "_" || p.node.S == "e" || p.node.S == "else")
	})
}

// inverse holds P6.5 for a form that matches, where the bindings and the template may be.
func inverse(t *testing.T, pat, form api.Datum, got []api.Got) bool {
	t.Helper()
	if !bindingsFit(got) || template(pat, got) != api.OK {
		return false
	}
	if b, e := pattern.Build(pat, got, 0); e != api.OK || !equal(b, form) {
		t.Fatalf("%s, with %s: %s, %d, not %s", text(pat), show(got), text(b), int(e), text(form))
	}
	return true
}

// holdBuild holds Build against the definition, and answers what it does.
func holdBuild(t *testing.T, tmpl api.Datum, got []api.Got, mark int) (api.Datum, api.Errno) {
	t.Helper()
	b, e := pattern.Build(tmpl, got, mark)
	if want, f := build(tmpl, got, mark); e != f || !equal(b, want) {
		t.Fatalf("Build(%s, %s, %d) is %s, %d, not %s, %d", text(tmpl), show(got), mark, text(b), int(e), text(want), int(f))
	}
	return b, e
}

// P6.3, P6.6: Build of all small templates.
func TestAllSmallBuilds(t *testing.T) {
	t.Parallel()
	got := []api.Got{is("a", "(1 . 2)"), nums("b", 1, 2), is("a", "9"), nums("c", 3, 4), row("e", 2, nums("e", 5), nums("e", 6, 7)), nums("f", 8), is("g", "()"), nums("h")}
	built, uneven := 0, 0
	hold := func(tmpls []api.Datum, got []api.Got) {
		for _, tmpl := range tmpls {
			b, e := holdBuild(t, tmpl, got, 3)
			switch e {
			case api.OK:
				built++
				hygiene(t, tmpl, got, 3, b)
			case api.ErrUneven:
				uneven++
			}
			holdBuild(t, tmpl, got, 0)
		}
	}
	hold(upTo(4, []api.Datum{sym("a"), sym("b"), sym("c"), sym("e"), sym("f"), sym("g"), sym("h"), sym("x", 2), dots}), got)
	hold(upTo(6, []api.Datum{sym("e"), dots}), got)
	hold(upTo(5, []api.Datum{sym("b"), sym("e"), dots}), got)
	hold(upTo(5, []api.Datum{sym("h"), sym("g"), dots}), got)
	hold(upTo(5, []api.Datum{sym("c"), sym("f"), dots}), got)
	if built < 5000 || uneven < 10 {
		t.Error("only so many are built, or uneven:", built, uneven)
	}
}

// hygiene holds P6.6: each symbol of a result is one of the bindings, or one of the template with the mark.
func hygiene(t *testing.T, tmpl api.Datum, got []api.Got, mark int, b api.Datum) {
	t.Helper()
	may := map[string]bool{}
	var bound func(got []api.Got)
	bound = func(got []api.Got) {
		for _, g := range got {
			for _, p := range places(g.D) {
				may[key(p.node)] = true
			}
			bound(g.L)
		}
	}
	bound(got)
	for _, p := range places(tmpl) {
		may[key(sym(p.node.S, append(slices.Clone(p.node.M), mark)...))] = true
	}
	for _, p := range places(b) {
		if p.node.K == api.DSym && !may[key(p.node)] {
			t.Fatalf("%s, with %s: where is %s from?", text(tmpl), show(got), text(p.node))
		}
	}
}

// P6.1 to P6.7: mixed rules, forms and bindings.
func TestMixed(t *testing.T) {
	t.Parallel()
	patterns, matches, again, built, uneven := 0, 0, 0, 0, 0
	o := oracle{lits: ds("else"), same: texts}
	for seed := range 8000 {
		m := newMaker(seed)
		m.bare = seed%2 == 0
		pat := m.pattern(1 + m.pick(4))
		vars, e := pattern.Vars(o.lits, pat)
		o.holdVars(t, vars, e, pat)
		if e != api.OK {
			continue
		}
		patterns++
		tmpl := m.template(vars, 1+m.pick(4), 0)
		r := api.Rule{Pat: list(sym("m"), pat), Tmpl: tmpl}
		if e, want := pattern.Check(o.lits, r), o.check(r); e != want {
			t.Fatalf("Check(%s, %s) is %d, not %d", text(r.Pat), text(tmpl), int(e), int(want))
		}
		for range 3 {
			form := m.like(pat, 30)
			got, ok := o.holdMatch(t, pat, form)
			if !ok {
				continue
			}
			matches++
			if m.bare && inverse(t, pat, form, got) {
				again++
			}
			b, e := holdBuild(t, tmpl, got, 7)
			if e == api.OK {
				hygiene(t, tmpl, got, 7, b)
			}
		}
		got := m.bindings(vars)
		b, e := holdBuild(t, tmpl, got, 7)
		switch e {
		case api.OK:
			built++
			hygiene(t, tmpl, got, 7, b)
		case api.ErrUneven:
			uneven++
		}
	}
	if patterns < 6000 || matches < 10000 || again < 4000 || built < 3000 || uneven < 60 {
		t.Error("only so many patterns, matches, forms that are built again, bindings that are built, uneven ones:", patterns, matches, again, built, uneven)
	}
}

// P6.4, P6.7: Expand with mixed rules; whatever rules come behind the first one that matches, it is the same.
func TestMixedRules(t *testing.T) {
	t.Parallel()
	o := oracle{lits: ds("else"), same: texts}
	by := map[int]int{}
	for seed := range 2000 {
		m := newMaker(seed + 20000)
		var rules []api.Rule
		var pats []api.Datum
		for range m.pick(5) {
			m.vars = 0
			pat := list(m.pattern(1), m.pattern(2+m.pick(2)))
			if m.chance(5) {
				pat = m.pattern(3)
			}
			rest, _ := datum.Cdr(pat)
			vars, _ := o.vars(rest)
			r := api.Rule{Pat: pat, Tmpl: m.template(vars, m.pick(4), 0)}
			if o.check(r) == api.OK || m.chance(20) {
				rules, pats = append(rules, r), append(pats, pat)
			}
		}
		forms := []api.Datum{m.form(2)}
		for _, pat := range pats {
			forms = append(forms, m.like(pat, 1000), m.like(pat, 20))
		}
		for _, form := range forms {
			b, n, e := pattern.Expand(o.lits, form, 4, texts, rules...)
			want, k, f := o.expand(form, 4, rules...)
			if e != f || n != k || !equal(b, want) {
				t.Fatalf("Expand(%s, %v) is %s, %d, %d, not %s, %d, %d", text(form), rules, text(b), n, int(e), text(want), k, int(f))
			}
			if e != api.OK {
				by[-int(e)]++
				continue
			}
			by[n]++
			for last := n + 1; last <= len(rules); last++ {
				if c, k, e := pattern.Expand(o.lits, form, 4, texts, rules[:last]...); e != api.OK || k != n || !equal(b, c) {
					t.Fatalf("Expand(%s, %v) is %s, %d, %d, not %s, %d", text(form), rules[:last], text(c), k, int(e), text(b), n)
				}
			}
			more := append(slices.Clone(rules), api.Rule{Pat: d("(m . a)"), Tmpl: d("(behind a)")})
			if c, k, e := pattern.Expand(o.lits, form, 4, texts, more...); e != api.OK || k != n || !equal(b, c) {
				t.Fatalf("Expand(%s) with one rule more is %s, %d, %d, not %s, %d", text(form), text(c), k, int(e), text(b), n)
			}
		}
	}
	if by[0] < 1000 || by[1] < 300 || by[2] < 50 || by[-int(api.ErrMatch)] < 1000 || by[-int(api.ErrUneven)] < 20 {
		t.Error("only so many by each rule, and of each error:", by)
	}
}

// P6.2: a literal matches what same says, whatever that says.
func TestMixedLiterals(t *testing.T) {
	matches := 0
	for seed := range 1500 {
		m := newMaker(seed + 30000)
		odd := func(lit, x api.Datum) bool { return (len(lit.S)+len(x.S)+len(x.M))%2 == seed%2 }
		o := oracle{lits: []api.Datum{sym("else"), sym("v1"), sym("v0", 5)}, same: odd}
		pat := m.pattern(2 + m.pick(3))
		for range 3 {
			if _, ok := o.holdMatch(t, pat, m.like(pat, 1000)); ok {
				matches++
			}
		}
	}
	if matches < 300 {
		t.Error("only so many match:", matches)
	}
}

// P1: whatever is given, nothing panics, each error is the right one, and beside it there is nothing.
func TestAnything(t *testing.T) {
	t.Parallel()
	var bad []api.Datum
	for _, x := range []string{"no kind", "a symbol", "a mark", "within", "an ellipsis", "too deep", "no end", "no tail"} {
		bad = append(bad, wrong()[x])
	}
	p := picker(99)
	any := func(good ...string) api.Datum {
		if n := p.pick(len(bad) + 3*len(good)); n < len(bad) {
			return bad[n]
		}
		return d(good[p.pick(len(good))])
	}
	seen := map[api.Errno]int{}
	for range 20000 {
		o := oracle{same: texts}
		for range p.pick(3) {
			o.lits = append(o.lits, any("else", "a", "b", "c", "_", "...", "5"))
		}
		pat := any("(a b)", "(b a ...)", "(a . b)", "(m a b)", "a", "...", "()", "(else a)")
		tmpl := any("a", "(a b)", "(a ...)", "((a b) ...)", "...", "(x . a)")
		form := any("(1 2)", "(m 1 2)", "(m)", "5", "(m else 1)")
		r := api.Rule{Pat: pat, Tmpl: tmpl}
		vars, e := pattern.Vars(o.lits, pat)
		if want, f := o.vars(pat); e != f || !equalGot(vars, want) {
			t.Fatal("Vars", text(pat), e)
		}
		if e, f := pattern.Check(o.lits, r), o.check(r); e != f {
			t.Fatal("Check", text(pat), text(tmpl), int(e), int(f))
		}
		got, ok := pattern.Match(o.lits, pat, form, texts)
		if want, is := o.match(pat, form); ok != is || !equalGot(got, want) {
			t.Fatal("Match", text(pat), text(form), ok)
		}
		for range p.pick(3) {
			g := api.Got{ID: any("a", "b", "c"), Deep: p.pick(3) - p.pick(2)}
			if g.Deep == 0 || p.pick(9) == 0 {
				g.D = any("1", "(2)")
			}
			for range p.pick(3) * (g.Deep + p.pick(2)) {
				g.L = append(g.L, api.Got{ID: g.ID, Deep: g.Deep - 1, D: num(1)})
			}
			got = append(got, g)
		}
		mark := []int{0, 1, 1 << 20, 1<<20 + 1, -1}[p.pick(p.pick(4)+2)]
		_, e = holdBuild(t, tmpl, got, mark)
		seen[e]++
		b, n, e := pattern.Expand(o.lits, form, mark, texts, r, api.Rule{Pat: any("(m . a)", "(m a)"), Tmpl: any("a", "x")})
		if e != api.OK && (n != 0 || !none(b)) {
			t.Fatal("Expand", text(b), n, int(e))
		}
		seen[e]++
	}
	if len(seen) < 7 {
		t.Error("only these errors were seen:", seen)
	}
}
