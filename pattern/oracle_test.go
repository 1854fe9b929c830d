package pattern_test

import (
	"slices"
	"strconv"
	"strings"
	"testing"

	"shuttle/api"
	"shuttle/datum"
	"shuttle/read"
)

// Patterns, templates and rules by the words of the definitions alone, against which the tests hold the package, and what they go through.

func num(n int64) api.Datum            { return api.Datum{K: api.DFix, N: n} }
func sym(s string, m ...int) api.Datum { return api.Datum{K: api.DSym, S: s, M: m} }
func list(l ...api.Datum) api.Datum    { return api.Datum{K: api.DList, L: l} }
func vec(l ...api.Datum) api.Datum     { return api.Datum{K: api.DVec, L: l} }
func dot(t api.Datum, l ...api.Datum) api.Datum {
	return api.Datum{K: api.DDot, L: l, T: []api.Datum{t}}
}

// d is the datum of a text; a symbol x^1^2 is x with the marks 1 and 2, dots^1 an ellipsis with one.
func d(s string) api.Datum {
	x, e := read.One(s)
	if e != api.OK {
		panic(s)
	}
	each(&x, func(x *api.Datum) {
		if parts := strings.Split(x.S, "^"); x.K == api.DSym && len(parts) > 1 {
			x.S = strings.Replace(parts[0], "dots", "...", 1)
			for _, m := range parts[1:] {
				n, _ := strconv.Atoi(m)
				x.M = append(x.M, n)
			}
		}
	})
	return x
}

// ds are the data of a text.
func ds(s string) []api.Datum { return d("(" + s + ")").L }

// text is what d reads, for messages.
func text(x api.Datum) string {
	if e := datum.Check(x); e != api.OK {
		return "<invalid: " + strconv.Itoa(int(e)) + ">"
	}
	x = datum.Clone(x)
	each(&x, func(x *api.Datum) {
		for _, m := range x.M {
			x.S = strings.Replace(x.S, "...", "dots", 1) + "^" + strconv.Itoa(m)
		}
		x.M = nil
	})
	s, e := read.Print(x)
	if e != api.OK {
		return "<too long>"
	}
	return s[:min(len(s), 1000)]
}

// textOf is that of several.
func textOf(l []api.Datum) string {
	s := ""
	for _, x := range l {
		s += text(x) + " "
	}
	return "[" + s[:min(len(s), 1000)] + "]"
}

// each visits the nodes of a datum, which may change them.
func each(x *api.Datum, see func(x *api.Datum)) {
	see(x)
	for _, l := range [][]api.Datum{x.L, x.T} {
		for i := range l {
			each(&l[i], see)
		}
	}
}

func equal(a, b api.Datum) bool {
	return a.K == b.K && a.N == b.N && a.S == b.S && slices.Equal(a.M, b.M) && slices.EqualFunc(a.L, b.L, equal) && slices.EqualFunc(a.T, b.T, equal)
}

func equalGot(a, b []api.Got) bool {
	return slices.EqualFunc(a, b, func(x, y api.Got) bool {
		return equal(x.ID, y.ID) && x.Deep == y.Deep && equal(x.D, y.D) && equalGot(x.L, y.L)
	})
}

func none(x api.Datum) bool { return equal(x, api.Datum{}) }

func count(got []api.Got) int {
	sum := len(got)
	for _, g := range got {
		sum += count(g.L)
	}
	return sum
}

// key is a symbol as a key of maps.
func key(x api.Datum) string {
	s := x.S
	for _, m := range x.M {
		s += "^" + strconv.Itoa(m)
	}
	return s
}

func isDots(x api.Datum) bool { return x.K == api.DSym && x.S == "..." }

// place is where a node stands in a datum: in which node, at which index of its L, -1 in its T.
type place struct {
	node   api.Datum
	in, at int
}

// places are those of all nodes, in order; the first one's is in none, -1.
func places(x api.Datum) []place {
	var l []place
	var visit func(x api.Datum, in, at int)
	visit = func(x api.Datum, in, at int) {
		l = append(l, place{x, in, at})
		me := len(l) - 1
		for i, y := range x.L {
			visit(y, me, i)
		}
		for _, y := range x.T {
			visit(y, me, -1)
		}
	}
	visit(x, -1, -1)
	return l
}

// repeated tells whether node i is directly followed by an ellipsis.
func repeated(l []place, i int) bool {
	p := l[i]
	return p.at >= 0 && p.at+1 < len(l[p.in].node.L) && isDots(l[p.in].node.L[p.at+1])
}

// within tells whether node o contains node i, or is it.
func within(l []place, i, o int) bool {
	for ; i >= 0; i = l[i].in {
		if i == o {
			return true
		}
	}
	return false
}

// outer is how many repeated elements contain node i, which itself counts.
func outer(l []place, i int) int {
	n := 0
	for o := range l {
		if repeated(l, o) && within(l, i, o) {
			n++
		}
	}
	return n
}

// dotsFit tells whether each ellipsis directly follows a repeated element that is no ellipsis.
func dotsFit(l []place) bool {
	for _, p := range l {
		if isDots(p.node) && (p.at < 1 || isDots(l[p.in].node.L[p.at-1])) {
			return false
		}
	}
	return true
}

// oracle has the literals, and the test for them.
type oracle struct {
	lits []api.Datum
	same func(lit, x api.Datum) bool
}

func (o oracle) literal(x api.Datum) bool {
	return slices.ContainsFunc(o.lits, func(lit api.Datum) bool { return key(lit) == key(x) })
}

func (o oracle) variable(x api.Datum) bool {
	return x.K == api.DSym && x.S != "..." && x.S != "_" && !o.literal(x)
}

func (o oracle) litsFit() bool {
	for _, x := range o.lits {
		if x.K != api.DSym || datum.Check(x) != api.OK || x.S == "..." || x.S == "_" {
			return false
		}
	}
	return true
}

func (o oracle) vars(pat api.Datum) ([]api.Got, api.Errno) {
	if e := datum.Check(pat); e != api.OK {
		return nil, e
	}
	if !o.litsFit() {
		return nil, api.ErrArg
	}
	l := places(pat)
	if !dotsFit(l) {
		return nil, api.ErrPat
	}
	dots := map[int]int{}
	var got []api.Got
	for i, p := range l {
		if isDots(p.node) {
			dots[p.in]++
			if dots[p.in] > 1 || l[p.in].node.K == api.DDot {
				return nil, api.ErrPat
			}
		}
		if o.variable(p.node) {
			if slices.ContainsFunc(got, func(g api.Got) bool { return key(g.ID) == key(p.node) }) {
				return nil, api.ErrPat
			}
			got = append(got, api.Got{ID: p.node, Deep: outer(l, i)})
		}
	}
	return got, api.OK
}

// template is the error of a template, for variables that are as deep as got says.
func template(tmpl api.Datum, got []api.Got) api.Errno {
	deep := depths(got)
	l := places(tmpl)
	if !dotsFit(l) {
		return api.ErrTmpl
	}
	for i, p := range l {
		if n, is := deep[key(p.node)]; p.node.K == api.DSym && is && outer(l, i) < n {
			return api.ErrTmpl
		}
		if repeated(l, i) && !slices.ContainsFunc(drivers(p.node, deep, outer(l, i)-1), func(string) bool { return true }) {
			return api.ErrTmpl
		}
	}
	return api.OK
}

func depths(got []api.Got) map[string]int {
	deep := map[string]int{}
	for _, g := range slices.Backward(got) {
		deep[key(g.ID)] = g.Deep
	}
	return deep
}

// drivers are the variables in x that are deeper than level.
func drivers(x api.Datum, deep map[string]int, level int) []string {
	var l []string
	for _, p := range places(x) {
		if n, is := deep[key(p.node)]; p.node.K == api.DSym && is && n > level {
			l = append(l, key(p.node))
		}
	}
	return l
}

func (o oracle) check(r api.Rule) api.Errno {
	if e := datum.Check(r.Pat); e != api.OK {
		return e
	}
	rest, e := datum.Cdr(r.Pat)
	if e != api.OK {
		return api.ErrPat
	}
	got, e := o.vars(rest)
	if e != api.OK {
		return e
	}
	if e := datum.Check(r.Tmpl); e != api.OK {
		return e
	}
	return template(r.Tmpl, got)
}

func (o oracle) match(pat, form api.Datum) ([]api.Got, bool) {
	vars, e := o.vars(pat)
	if e != api.OK || datum.Check(form) != api.OK {
		return nil, false
	}
	bound := map[string]api.Got{}
	if !o.fits(pat, form, bound) {
		return nil, false
	}
	for i, v := range vars {
		vars[i] = bound[key(v.ID)]
	}
	return vars, true
}

// fits tells whether a form matches a pattern, and enters what the variables are bound to.
func (o oracle) fits(pat, form api.Datum, bound map[string]api.Got) bool {
	switch {
	case pat.K == api.DSym && pat.S == "_":
		return true
	case o.variable(pat):
		bound[key(pat)] = api.Got{ID: pat, D: form}
		return true
	case pat.K == api.DSym:
		return form.K == api.DSym && o.same(pat, form)
	case pat.K == api.DDot:
		rest := form
		for _, p := range pat.L {
			first, e := datum.Car(rest)
			if e != api.OK || !o.fits(p, first, bound) {
				return false
			}
			rest, _ = datum.Cdr(rest)
		}
		return o.fits(pat.T[0], rest, bound)
	case pat.K != api.DList && pat.K != api.DVec:
		return equal(pat, form)
	}
	at := slices.IndexFunc(pat.L, isDots)
	if form.K != pat.K || at < 0 && len(pat.L) != len(form.L) || at >= 0 && len(pat.L)-2 > len(form.L) {
		return false
	}
	if at < 0 {
		return o.allFit(pat.L, form.L, bound)
	}
	behind := len(form.L) - (len(pat.L) - at - 1)
	return o.allFit(pat.L[:at-1], form.L[:at-1], bound) && o.rowFits(pat.L[at-1], form.L[at-1:behind], bound) && o.allFit(pat.L[at+1:], form.L[behind:], bound)
}

func (o oracle) allFit(pats, forms []api.Datum, bound map[string]api.Got) bool {
	for i, p := range pats {
		if !o.fits(p, forms[i], bound) {
			return false
		}
	}
	return true
}

func (o oracle) rowFits(pat api.Datum, forms []api.Datum, bound map[string]api.Got) bool {
	vars, _ := o.vars(pat)
	for i := range vars {
		vars[i].Deep++
	}
	for _, form := range forms {
		one := map[string]api.Got{}
		if !o.fits(pat, form, one) {
			return false
		}
		for i, v := range vars {
			vars[i].L = append(vars[i].L, one[key(v.ID)])
		}
	}
	for _, v := range vars {
		bound[key(v.ID)] = v
	}
	return true
}

// bindingsFit tells whether these may be bindings.
func bindingsFit(got []api.Got) bool {
	if count(got) > 4096 {
		return false
	}
	for _, g := range got {
		if g.ID.K != api.DSym || datum.Check(g.ID) != api.OK || isDots(g.ID) || g.Deep < 0 || g.Deep > 64 {
			return false
		}
		if g.Deep == 0 && (len(g.L) > 0 || datum.Check(g.D) != api.OK) || g.Deep > 0 && !none(g.D) {
			return false
		}
		for _, x := range g.L {
			if key(x.ID) != key(g.ID) || x.Deep != g.Deep-1 {
				return false
			}
		}
		if !bindingsFit(g.L) {
			return false
		}
	}
	return true
}

// scribe builds: how many nodes are written, and the first error.
type scribe struct {
	deep    map[string]int
	mark    int
	written int
	err     api.Errno
}

func build(tmpl api.Datum, got []api.Got, mark int) (api.Datum, api.Errno) {
	if mark < 0 || mark > 1<<20 || !bindingsFit(got) {
		return api.Datum{}, api.ErrArg
	}
	if e := datum.Check(tmpl); e != api.OK {
		return api.Datum{}, e
	}
	if e := template(tmpl, got); e != api.OK {
		return api.Datum{}, e
	}
	s := &scribe{deep: depths(got), mark: mark}
	bound := map[string]api.Got{}
	for _, g := range slices.Backward(got) {
		bound[key(g.ID)] = g
	}
	x := s.build(tmpl, bound, 0)
	if s.err == api.OK {
		s.err = datum.Check(x)
	}
	if s.err != api.OK {
		return api.Datum{}, s.err
	}
	return x, api.OK
}

func (s *scribe) write(nodes int) {
	s.written += nodes
	if s.written > 16384 && s.err == api.OK {
		s.err = api.ErrLong
	}
}

// build is what a template becomes that so many repeated elements contain; anything, when there is an error.
func (s *scribe) build(t api.Datum, bound map[string]api.Got, level int) api.Datum {
	if s.err != api.OK {
		return api.Datum{}
	}
	if g, is := bound[key(t)]; t.K == api.DSym && is {
		s.write(len(places(g.D)))
		return g.D
	}
	s.write(1)
	if t.K == api.DSym && s.mark != 0 {
		return sym(t.S, append(slices.Clone(t.M), s.mark)...)
	}
	if t.K < api.DList {
		return t
	}
	var l []api.Datum
	for i, x := range t.L {
		switch {
		case isDots(x):
		case i+1 < len(t.L) && isDots(t.L[i+1]):
			l = append(l, s.row(x, bound, level)...)
		default:
			l = append(l, s.build(x, bound, level))
		}
	}
	if t.K != api.DDot {
		return api.Datum{K: t.K, L: l}
	}
	whole := s.build(t.T[0], bound, level)
	for _, x := range slices.Backward(l) {
		if whole.K == api.DList || whole.K == api.DDot {
			whole.L = append([]api.Datum{x}, whole.L...)
		} else {
			whole = dot(whole, x)
		}
	}
	return whole
}

func (s *scribe) row(t api.Datum, bound map[string]api.Got, level int) []api.Datum {
	vars := drivers(t, s.deep, level)
	times := len(bound[vars[0]].L)
	for _, v := range vars {
		if len(bound[v].L) != times && s.err == api.OK {
			s.err = api.ErrUneven
		}
	}
	var l []api.Datum
	for i := range times {
		if s.err != api.OK {
			return nil
		}
		one := map[string]api.Got{}
		for k, g := range bound {
			one[k] = g
		}
		for _, v := range vars {
			one[v] = bound[v].L[i]
		}
		l = append(l, s.build(t, one, level+1))
	}
	return l
}

func (o oracle) expand(form api.Datum, mark int, l ...api.Rule) (api.Datum, int, api.Errno) {
	for _, r := range l {
		if e := o.check(r); e != api.OK {
			return api.Datum{}, 0, e
		}
	}
	rest, e := datum.Cdr(form)
	if e != api.OK {
		return api.Datum{}, 0, api.ErrMatch
	}
	for i, r := range l {
		pat, _ := datum.Cdr(r.Pat)
		if got, ok := o.match(pat, rest); ok {
			x, e := build(r.Tmpl, got, mark)
			if e != api.OK {
				i = 0
			}
			return x, i, e
		}
	}
	return api.Datum{}, 0, api.ErrMatch
}

// texts are the same if their texts are, whatever their marks.
func texts(a, b api.Datum) bool { return a.S == b.S }

// picker picks numbers, the same ones each time.
type picker uint64

func (p *picker) pick(below int) int {
	*p ^= *p << 13
	*p ^= *p >> 7
	*p ^= *p << 17
	return int(*p>>11) % below
}

// small are all data of exactly so many nodes, with these atoms.
func small(nodes int, atoms []api.Datum) []api.Datum {
	var l []api.Datum
	if nodes == 1 {
		l = append(l, atoms...)
	}
	for _, row := range rows(nodes-1, atoms) {
		l = append(l, list(row...), vec(row...))
		if last := len(row) - 1; last > 0 && row[last].K != api.DList && row[last].K != api.DDot {
			l = append(l, dot(row[last], row[:last]...))
		}
	}
	return l
}

// rows are all rows of data that have so many nodes together.
func rows(nodes int, atoms []api.Datum) [][]api.Datum {
	if nodes == 0 {
		return [][]api.Datum{nil}
	}
	var l [][]api.Datum
	for first := 1; first <= nodes; first++ {
		rest := rows(nodes-first, atoms)
		for _, x := range small(first, atoms) {
			for _, r := range rest {
				l = append(l, append([]api.Datum{x}, r...))
			}
		}
	}
	return l
}

// upTo are all data of at most so many nodes.
func upTo(nodes int, atoms []api.Datum) []api.Datum {
	var l []api.Datum
	for n := 1; n <= nodes; n++ {
		l = append(l, small(n, atoms)...)
	}
	return l
}

// holdVars holds Vars against the definition.
func (o oracle) holdVars(t *testing.T, vars []api.Got, e api.Errno, pat api.Datum) {
	t.Helper()
	if want, f := o.vars(pat); e != f || !equalGot(vars, want) {
		t.Fatalf("Vars(%s) is %s, %d, not %s, %d", text(pat), depthsOf(vars), int(e), depthsOf(want), int(f))
	}
}
