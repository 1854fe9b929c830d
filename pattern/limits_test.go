package pattern_test

import (
	"slices"
	"strconv"
	"testing"

	"shuttle/api"
	"shuttle/datum"
	"shuttle/pattern"
)

func ones(count int) []int { return slices.Repeat([]int{1}, count) }

// sized is a datum of so many nodes.
func sized(nodes int) api.Datum {
	if nodes == 1 {
		return num(0)
	}
	return list(slices.Repeat([]api.Datum{num(0)}, nodes-1)...)
}

// nest is x within so many lists.
func nest(lists int, x api.Datum) api.Datum {
	for range lists {
		x = list(x)
	}
	return x
}

// nestDots is x within so many lists, in each of which it is repeated.
func nestDots(lists int, x api.Datum) api.Datum {
	for range lists {
		x = list(x, sym("..."))
	}
	return x
}

// bind binds a symbol to a datum.
func bind(id string, x api.Datum) api.Got { return api.Got{ID: sym(id), D: x} }

// many binds a symbol to a row of numbers.
func many(id string, count int) api.Got {
	g := api.Got{ID: sym(id), Deep: 1}
	for i := range count {
		g.L = append(g.L, bind(id, num(int64(i))))
	}
	return g
}

// P6.3: MaxMarks: a symbol of the template may have one less, unless the mark is 0; those of the bindings have no mark appended.
func TestMaxMarks(t *testing.T) {
	for _, x := range []struct {
		marks, mark int
		e           api.Errno
	}{{15, 1, api.OK}, {15, 1 << 20, api.OK}, {16, 0, api.OK}, {16, 1, api.ErrDatum}, {16, 1 << 20, api.ErrDatum}} {
		s := sym("x", slices.Repeat([]int{7}, x.marks)...)
		want := list(s, num(1))
		if x.mark != 0 {
			want = list(sym("x", append(slices.Clone(s.M), x.mark)...), num(1))
		}
		if x.e != api.OK {
			want = api.Datum{}
		}
		if b, e := pattern.Build(list(s, sym("a")), []api.Got{bind("a", num(1))}, x.mark); e != x.e || !equal(b, want) {
			t.Error(x, b, int(e))
		}
		// The same where it isn't written at all.
		if b, e := pattern.Build(list(list(s, sym("r")), sym("...")), []api.Got{many("r", 0)}, x.mark); e != api.OK || !equal(b, list()) {
			t.Error(x, b, int(e))
		}
		r := api.Rule{Pat: list(sym("m"), sym("a")), Tmpl: list(s, sym("a"))}
		if b, n, e := pattern.Expand(nil, d("(m 1)"), x.mark, texts, r); e != x.e || n != 0 || !equal(b, want) {
			t.Error(x, b, n, int(e))
		}
	}
	full := sym("a", ones(16)...)
	b, e := pattern.Build(list(full, sym("b")), []api.Got{{ID: full, D: full}, bind("b", full)}, 1)
	if e != api.OK || !equal(b, list(full, full)) {
		t.Error(b, int(e))
	}
}

// P6.1, P6.2, P6.3: symbols are equal if all their marks are, up to the last one.
func TestLastMark(t *testing.T) {
	last := append(ones(15), 1<<20)
	other := append(ones(15), 1<<20-1)
	pat := list(sym("a", last...), sym("a", other...), sym("a", ones(15)...), sym("a"))
	vars, e := pattern.Vars([]api.Datum{sym("a", ones(16)...)}, pat)
	if e != api.OK || len(vars) != 4 || !equal(vars[0].ID, pat.L[0]) || !equal(vars[1].ID, pat.L[1]) {
		t.Error(vars, int(e))
	}
	if vars, e := pattern.Vars([]api.Datum{sym("a", last...)}, pat); e != api.OK || len(vars) != 3 || !equal(vars[0].ID, pat.L[1]) {
		t.Error(vars, int(e))
	}
	if _, e := pattern.Vars(nil, list(sym("a", last...), sym("a", slices.Clone(last)...))); e != api.ErrPat {
		t.Error(int(e))
	}
	got, ok := pattern.Match(nil, pat, d("(1 2 3 4)"), texts)
	if !ok {
		t.Fatal("no match")
	}
	slices.Reverse(got)
	if b, e := pattern.Build(pat, got, 0); e != api.OK || text(b) != "(1 2 3 4)" {
		t.Error(text(b), int(e))
	}
}

// P6.3: MaxMark.
func TestMaxMark(t *testing.T) {
	for mark, want := range map[int]string{0: "(x 1)", 1: "(x^1 1)", 1<<20 - 1: "(x^1048575 1)", 1 << 20: "(x^1048576 1)"} {
		if b, e := pattern.Build(d("(x a)"), []api.Got{is("a", "1")}, mark); e != api.OK || text(b) != want {
			t.Error(mark, text(b), int(e))
		}
	}
	for _, mark := range []int{-1, 1<<20 + 1} {
		if b, e := pattern.Build(d("(x a)"), []api.Got{is("a", "1")}, mark); e != api.ErrArg || !none(b) {
			t.Error(mark, text(b), int(e))
		}
	}
}

// P6.1, P6.2, P6.5: a pattern as deep as a datum goes, with a repeated element on each level.
func TestDeepestPattern(t *testing.T) {
	pat := nestDots(63, sym("a"))
	vars, e := pattern.Vars(nil, pat)
	if e != api.OK || depthsOf(vars) != "a:63" {
		t.Error(depthsOf(vars), int(e))
	}
	if _, e := pattern.Vars(nil, nestDots(64, sym("a"))); e != api.ErrDeep {
		t.Error(int(e))
	}
	for _, form := range []api.Datum{nest(63, num(5)), nest(62, list(num(1), num(2))), nest(40, list()), list(), nest(63, list()).L[0]} {
		got, ok := pattern.Match(nil, pat, form, texts)
		want, is := oracle{}.match(pat, form)
		if ok != is || !ok || !equalGot(got, want) {
			t.Errorf("%s: %v, %s, not %v, %s", text(form), ok, show(got), is, show(want))
		}
		if b, e := pattern.Build(pat, got, 0); e != api.OK || !equal(b, form) {
			t.Error(text(b), int(e))
		}
	}
	rule := api.Rule{Pat: list(sym("m"), pat.L[0], sym("...")), Tmpl: pat}
	if b, n, e := pattern.Expand(nil, list(sym("m"), nest(62, num(1))), 1, texts, rule); e != api.OK || n != 0 || !equal(b, nest(63, num(1))) {
		t.Error(text(b), n, int(e))
	}
}

// P6.3: MaxDeep of bindings: one that is deeper than a template can go is valid, only it can't be used.
func TestMaxDeepBindings(t *testing.T) {
	tower := func(deep int) api.Got {
		g := bind("a", num(1))
		for n := 1; n <= deep; n++ {
			g = api.Got{ID: sym("a"), Deep: n, L: []api.Got{g}}
		}
		return g
	}
	for _, g := range []api.Got{tower(64), row("a", 64), row("a", 64, row("a", 63), row("a", 63))} {
		if b, e := pattern.Build(d("5"), []api.Got{g}, 0); e != api.OK || !equal(b, num(5)) {
			t.Error(text(b), int(e))
		}
		if _, e := pattern.Build(nestDots(63, sym("a")), []api.Got{g}, 0); e != api.ErrTmpl {
			t.Error(int(e))
		}
	}
	for _, g := range []api.Got{tower(65), row("a", 65)} {
		if b, e := pattern.Build(d("5"), []api.Got{g}, 0); e != api.ErrArg || !none(b) {
			t.Error(text(b), int(e))
		}
	}
	if b, e := pattern.Build(nestDots(63, sym("a")), []api.Got{tower(63)}, 0); e != api.OK || !equal(b, nest(63, num(1))) {
		t.Error(text(b), int(e))
	}
}

// P6.3: MaxDeep of the result, which is deeper than the template by what variables are bound to.
func TestMaxDeepResult(t *testing.T) {
	for _, x := range []struct {
		around, datum int
		e             api.Errno
	}{{0, 63, api.OK}, {1, 62, api.OK}, {1, 63, api.ErrDeep}, {31, 32, api.OK}, {31, 33, api.ErrDeep}, {63, 0, api.OK}, {63, 1, api.ErrDeep}, {63, 63, api.ErrDeep}} {
		want := nest(x.around+x.datum, num(1))
		if x.e != api.OK {
			want = api.Datum{}
		}
		if b, e := pattern.Build(nest(x.around, sym("a")), []api.Got{bind("a", nest(x.datum, num(1)))}, 1); e != x.e || !equal(b, want) {
			t.Error(x, text(b), int(e))
		}
	}
	// What is merged with a tail is less deep than what is an element.
	got := []api.Got{bind("a", nest(63, num(1)))}
	if b, e := pattern.Build(d("(5 . a)"), got, 1); e != api.OK || !equal(b, list(num(5), got[0].D.L[0])) {
		t.Error(text(b), int(e))
	}
	if b, e := pattern.Build(d("(5 a)"), got, 1); e != api.ErrDeep || !none(b) {
		t.Error(text(b), int(e))
	}
}

// P6.3: MaxNodes bindings, those in rows too, and one more.
func TestMaxNodesBindings(t *testing.T) {
	flatRow := func(n int) []api.Got {
		var got []api.Got
		for i := range n {
			got = append(got, bind("x"+strconv.Itoa(i), num(1)))
		}
		return got
	}
	wide := api.Got{ID: sym("w"), Deep: 2, L: slices.Repeat([]api.Got{{ID: sym("w"), Deep: 1, L: many("w", 62).L}}, 65)} // 1 + 65 * 63 are 4096
	bush := bind("b", num(1))                                                                                            // as much in little memory
	for n := 1; n <= 64; n++ {
		bush = api.Got{ID: sym("b"), Deep: n, L: []api.Got{bush, bush}}
	}
	for i, x := range []struct {
		got []api.Got
		e   api.Errno
	}{
		{flatRow(4096), api.OK},
		{flatRow(4097), api.ErrArg},
		{[]api.Got{many("r", 4095)}, api.OK},
		{[]api.Got{many("r", 4096)}, api.ErrArg},
		{append(flatRow(96), many("r", 3999)), api.OK},
		{append(flatRow(96), many("r", 4000)), api.ErrArg},
		{append(flatRow(97), many("r", 3999)), api.ErrArg},
		{[]api.Got{many("r", 2000), many("s", 2094)}, api.OK},
		{[]api.Got{many("r", 2000), many("s", 2095)}, api.ErrArg},
		{[]api.Got{wide}, api.OK},
		{[]api.Got{wide, bind("x", num(1))}, api.ErrArg},
		{[]api.Got{bind("x", num(1)), wide}, api.ErrArg},
		{slices.Repeat([]api.Got{bind("x", num(1))}, 4096), api.OK},
		{slices.Repeat([]api.Got{bind("x", num(1))}, 100000), api.ErrArg},
		{[]api.Got{bush}, api.ErrArg},
	} {
		b, e := pattern.Build(d("5"), x.got, 0)
		if e != x.e || e == api.OK && !equal(b, num(5)) || e != api.OK && !none(b) {
			t.Error(i, text(b), int(e))
		}
	}
}

// P6.4: Match binds as much as there is; Expand builds nothing of more than MaxNodes bindings.
func TestManyBindings(t *testing.T) {
	// So many variables, in a repeated element within a repeated one that matches so many times: one row each, with so many rows in it.
	expand := func(vars, times int) (api.Datum, []api.Got, bool, api.Errno) {
		inner := list()
		for i := range vars {
			inner.L = append(inner.L, sym("x"+strconv.Itoa(i)))
		}
		pat := list(list(inner, sym("...")), sym("..."))
		form := list(slices.Repeat([]api.Datum{list()}, times)...)
		var got []api.Got
		ok := false
		if vars*times < 100000 {
			got, ok = pattern.Match(nil, pat, form, texts)
		}
		rule := api.Rule{Pat: list(sym("m"), pat), Tmpl: d("5")}
		b, _, e := pattern.Expand(nil, list(sym("m"), form), 1, texts, rule)
		return b, got, ok, e
	}
	for _, x := range []struct {
		vars, times int
		e           api.Errno
	}{{16, 255, api.OK}, {17, 240, api.ErrArg}, {1, 4092, api.OK}, {64, 63, api.OK}, {64, 64, api.ErrArg}, {4087, 0, api.OK}, {2048, 1, api.OK}, {2049, 1, api.ErrArg}} {
		b, got, ok, e := expand(x.vars, x.times)
		if !ok || len(got) != x.vars || count(got) != x.vars*(x.times+1) {
			t.Error(x, ok, len(got), count(got))
		}
		for i, g := range got {
			if !equal(g.ID, sym("x"+strconv.Itoa(i))) || g.Deep != 2 || len(g.L) != x.times || !none(g.D) {
				t.Error(x, i, text(g.ID), g.Deep, len(g.L))
			}
		}
		if e != x.e || e == api.OK && !equal(b, num(5)) || e != api.OK && !none(b) {
			t.Error(x, text(b), int(e))
		}
	}
	// Far more than there is memory for.
	if b, _, _, e := expand(4087, 4092); e != api.ErrArg || !none(b) {
		t.Error(text(b), int(e))
	}
}

// P6.3: MaxNodes nodes in the result, and one more.
func TestMaxNodesResult(t *testing.T) {
	for _, x := range []struct {
		tmpl string
		got  []api.Got
		size int // 0: too many
	}{
		{"a", []api.Got{bind("a", sized(4096))}, 4096},
		{"(a)", []api.Got{bind("a", sized(4095))}, 4096},
		{"(a)", []api.Got{bind("a", sized(4096))}, 0},
		{"(a b)", []api.Got{bind("a", sized(2000)), bind("b", sized(2095))}, 4096},
		{"(a b)", []api.Got{bind("a", sized(2000)), bind("b", sized(2096))}, 0},
		{"(a b ...)", []api.Got{bind("a", num(1)), many("b", 4094)}, 4096},
		{"(a a b ...)", []api.Got{bind("a", num(1)), many("b", 4094)}, 0},
		{"((b) ... 1)", []api.Got{many("b", 2047)}, 4096},
		{"((b) ... 1 1)", []api.Got{many("b", 2047)}, 0},
		{"(1 . a)", []api.Got{bind("a", sized(4095))}, 4096},
		{"(1 . a)", []api.Got{bind("a", sized(4096))}, 0},
		{"(1 2 . a)", []api.Got{bind("a", sized(4094))}, 4096},
		{"(b ... . a)", []api.Got{bind("a", sized(4096)), many("b", 0)}, 4096},
		{"(b ... . a)", []api.Got{bind("a", sized(4090)), many("b", 5)}, 4095},
		{"(b ... . a)", []api.Got{bind("a", sized(4091)), many("b", 4)}, 4095},
	} {
		b, e := pattern.Build(d(x.tmpl), x.got, 0)
		if x.size > 0 && (e != api.OK || datum.Size(b) != x.size) || x.size == 0 && (e != api.ErrLong || !none(b)) {
			t.Errorf("%s: %d nodes, %d, not %d", x.tmpl, datum.Size(b), int(e), x.size)
		}
	}
}

// P6.3: of what is written, each node counts, whatever becomes of it: after 4 times MaxNodes an uneven row is still told, after one more it isn't.
func TestWrittenNodes(t *testing.T) {
	got := []api.Got{bind("b", sized(4096)), bind("l", sized(7)), bind("i", d("(1 2 . 3)")), bind("e", list()), many("r", 10), many("n", 0), many("u", 2), many("v", 3), row("rr", 2, nums("rr", 1, 2), nums("rr"))}
	uneven := list(sym("u"), sym("v"))
	for part, nodes := range map[string]int{
		"1":                  1,
		"x":                  1,
		"()":                 1,
		"#()":                1,
		"(x 1 (2))":          5,
		"#(x 1 #(2))":        5,
		"(1 . 2)":            3,
		"l":                  7,
		"i":                  4,
		"(l)":                8,
		"(1 . l)":            9, // though the result has 8
		"(1 . i)":            6,
		"(1 . e)":            3,
		"(n ... . l)":        8, // though the result has 7
		"(n ... . 5)":        2,
		"(r ...)":            11,
		"(r ... r ...)":      21,
		"((r) ...)":          21,
		"((r x l) ...)":      101,
		"((r . l) ...)":      91,
		"(n ...)":            1,
		"((n (x x)) ...)":    1,
		"((rr ...) ...)":     5,
		"((rr ... x) ...)":   7,
		"(((rr l) ...) ...)": 21,
	} {
		left := 16384 - 1 - nodes
		head := []api.Datum{d(part)}
		for ; left > 4096; left -= 4096 {
			head = append(head, sym("b"))
		}
		for more := -1; more <= 1; more++ {
			fill := bind("f", sized(left+more))
			if left+more == 0 {
				continue
			}
			tmpl := list(append(slices.Clone(head), sym("f"), uneven, sym("..."))...)
			want := api.ErrUneven
			if more > 0 {
				want = api.ErrLong
			}
			if b, e := pattern.Build(tmpl, append(slices.Clone(got), fill), 1); e != want || !none(b) {
				t.Errorf("%s, %d more: %d, not %d", part, more, int(e), int(want))
			}
			// The uneven row comes first.
			tmpl = list(append([]api.Datum{uneven, sym("...")}, append(slices.Clone(head), sym("f"))...)...)
			if b, e := pattern.Build(tmpl, append(slices.Clone(got), fill), 1); e != api.ErrUneven || !none(b) {
				t.Errorf("%s, %d more: %d", part, more, int(e))
			}
			// The node that is one too many may be the list around the uneven row.
			tmpl = list(append(slices.Clone(head), sym("f"), list(uneven, sym("...")))...)
			want = api.ErrUneven
			if more >= 0 {
				want = api.ErrLong
			}
			if b, e := pattern.Build(tmpl, append(slices.Clone(got), fill), 1); e != want || !none(b) {
				t.Errorf("%s, %d more, within a list: %d, not %d", part, more, int(e), int(want))
			}
		}
	}
}

// P6.3: ErrLong for what is written comes ahead of what is wrong with the result, that after all is written.
func TestWrittenOrResult(t *testing.T) {
	full := sym("x", ones(16)...)
	got := []api.Got{bind("b", sized(4096)), bind("deep", nest(63, num(1)))}
	for left, want := range map[int]api.Errno{4093: api.ErrDatum, 4094: api.ErrDatum, 4095: api.ErrLong} {
		f := append(slices.Clone(got), bind("f", sized(left)))
		if b, e := pattern.Build(list(full, sym("b"), sym("b"), sym("b"), sym("f")), f, 1); e != want || !none(b) {
			t.Error(left, int(e))
		}
		if b, e := pattern.Build(list(num(1), sym("b"), sym("b"), sym("b"), sym("f"), full), f, 1); e != api.ErrLong || !none(b) {
			t.Error(left, int(e))
		}
	}
	if b, e := pattern.Build(list(sym("deep"), full), got, 1); e != api.ErrDeep || !none(b) {
		t.Error(int(e))
	}
	if b, e := pattern.Build(list(full, sym("deep")), got, 1); e != api.ErrDatum || !none(b) {
		t.Error(int(e))
	}
	if b, e := pattern.Build(list(sym("b"), sym("deep")), got, 1); e != api.ErrLong || !none(b) {
		t.Error(int(e))
	}
}

// P6.3, the bound: what would grow without measure is left as soon as there is too much.
func TestFarTooMuch(t *testing.T) {
	var parts []api.Datum
	for range 1000 {
		parts = append(parts, list(sym("r"), sym("...")))
	}
	tmpl := list(list(append(parts, sym("s"))...), sym("..."))
	wide := api.Got{ID: sym("r"), Deep: 2, L: slices.Repeat([]api.Got{many("r", 40)}, 90)}
	if b, e := pattern.Build(tmpl, []api.Got{many("s", 90), wide}, 1); e != api.ErrLong || !none(b) {
		t.Error(int(e))
	}
	empty := api.Got{ID: sym("r"), Deep: 2, L: slices.Repeat([]api.Got{{ID: sym("r"), Deep: 1}}, 2000)}
	if b, e := pattern.Build(tmpl, []api.Got{many("s", 2000), empty}, 1); e != api.ErrLong || !none(b) {
		t.Error(int(e))
	}
}

// P6.1, P6.4: there may be any number of literals and rules.
func TestManyLiteralsAndRules(t *testing.T) {
	var lits []api.Datum
	var rules []api.Rule
	for i := range 5000 {
		lits = append(lits, sym("x"+strconv.Itoa(i)))
	}
	for i := range 300 {
		rules = append(rules, api.Rule{Pat: list(sym("m"), lits[i], sym("a")), Tmpl: list(sym("a"), num(int64(i)))})
	}
	vars, e := pattern.Vars(lits, list(append([]api.Datum{sym("a")}, lits[1000:]...)...))
	if e != api.OK || depthsOf(vars) != "a:0" {
		t.Error(depthsOf(vars), int(e))
	}
	for _, i := range []int{0, 1, 150, 299} {
		if b, n, e := pattern.Expand(lits[:300], list(sym("m"), lits[i], num(7)), 1, texts, rules...); e != api.OK || n != i || !equal(b, list(num(7), num(int64(i)))) {
			t.Error(i, text(b), n, int(e))
		}
	}
	if _, n, e := pattern.Expand(lits[:300], d("(m y 7)"), 1, texts, rules...); e != api.ErrMatch || n != 0 {
		t.Error(n, int(e))
	}
	wide := list(append([]api.Datum{sym("m")}, lits[:4094]...)...) // as many variables as there is room for
	if b, _, e := pattern.Expand(nil, wide, 1, texts, api.Rule{Pat: wide, Tmpl: list(lits[:4094]...)}); e != api.OK || !equal(b, list(lits[:4094]...)) {
		t.Error(text(b), int(e))
	}
}
