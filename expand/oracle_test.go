package expand_test

import (
	"maps"
	"slices"
	"strconv"
	"strings"
	"testing"

	"shuttle/api"
	"shuttle/core"
	"shuttle/datum"
	"shuttle/expand"
	"shuttle/pattern"
	"shuttle/read"
)

// The translation by the words of the definitions alone, with scopes and marks of its own, against which the tests hold the package.

func sym(s string, m ...int) api.Datum { return api.Datum{K: api.DSym, S: s, M: m} }
func num(n int64) api.Datum            { return api.Datum{K: api.DFix, N: n} }
func list(l ...api.Datum) api.Datum    { return api.Datum{K: api.DList, L: l} }
func vec(l ...api.Datum) api.Datum     { return api.Datum{K: api.DVec, L: l} }
func dot(t api.Datum, l ...api.Datum) api.Datum {
	return api.Datum{K: api.DDot, L: l, T: []api.Datum{t}}
}

// d is the datum of a text; a symbol x^1^2 is x with the marks 1 and 2; :5 x within a list is x five times, for lists of more words than a text may have.
func d(s string) api.Datum {
	x, e := read.One(s)
	if e != api.OK {
		panic(s)
	}
	each(&x, func(x *api.Datum) {
		if parts := strings.Split(x.S, "^"); x.K == api.DSym && len(parts) > 1 {
			x.S = parts[0]
			for _, m := range parts[1:] {
				n, _ := strconv.Atoi(m)
				x.M = append(x.M, n)
			}
		}
		x.L = repeated(x.L)
	})
	return x
}

func repeated(l []api.Datum) []api.Datum {
	for i, x := range slices.Backward(l) {
		if x.K == api.DSym && len(x.S) > 1 && x.S[0] == ':' {
			many, _ := strconv.Atoi(x.S[1:])
			l = slices.Concat(l[:i], slices.Repeat(l[i+1:i+2], many), l[i+2:])
		}
	}
	return l
}

// ds are the data of a text.
func ds(s string) []api.Datum { return d("(" + s + ")").L }

// each visits the nodes of a datum, which may change them.
func each(x *api.Datum, see func(x *api.Datum)) {
	see(x)
	for _, l := range [][]api.Datum{x.L, x.T} {
		for i := range l {
			each(&l[i], see)
		}
	}
}

// textOf is what d reads, for messages.
func textOf(x api.Datum) string {
	if e := datum.Check(x); e != api.OK {
		return "<invalid: " + strconv.Itoa(int(e)) + ">"
	}
	x = datum.Clone(x)
	each(&x, func(x *api.Datum) {
		x.S = key(*x)
		x.M = nil
	})
	s, e := read.Print(x)
	if e != api.OK {
		return "<too long>"
	}
	return s[:min(len(s), 1000)]
}

// key is a symbol with its marks as one text.
func key(x api.Datum) string {
	s := x.S
	for _, m := range x.M {
		s += "^" + strconv.Itoa(m)
	}
	return s
}

// text is an expression as core.Datum writes it, however deep it is.
func text(c api.Core) string {
	s := strings.Builder{}
	write(&s, c)
	return s.String()
}

func brief(c api.Core) string {
	s := text(c)
	return s[:min(len(s), 1000)]
}

func write(s *strings.Builder, c api.Core) {
	if s.Len() > 1<<20 {
		return
	}
	heads := []string{"nothing", "const", "local", "global", "set", "assign", "define", "if", "lambda", "seq", "call"}
	s.WriteString("(" + heads[c.K])
	switch c.K {
	case api.CoConst:
		s.WriteString(" " + textOf(c.D))
	case api.CoLocal, api.CoSet:
		s.WriteString(" " + strconv.FormatInt(c.N, 10))
	case api.CoGlobal, api.CoAssign, api.CoDefine:
		s.WriteString(" " + c.S)
	case api.CoLambda:
		s.WriteString(strings.Repeat("*", int(c.N)) + " (")
		for i, p := range c.P {
			s.WriteString(strings.Repeat(" ", min(i, 1)) + strconv.Itoa(p))
		}
		s.WriteString(")")
	}
	for _, x := range c.L {
		s.WriteString(" ")
		write(s, x)
	}
	s.WriteString(")")
}

func equalDatum(a, b api.Datum) bool {
	return a.K == b.K && a.N == b.N && a.S == b.S && slices.Equal(a.M, b.M) && slices.EqualFunc(a.L, b.L, equalDatum) && slices.EqualFunc(a.T, b.T, equalDatum)
}

func equal(a, b api.Core) bool {
	return a.K == b.K && a.N == b.N && a.S == b.S && equalDatum(a.D, b.D) && slices.Equal(a.P, b.P) && slices.EqualFunc(a.L, b.L, equal)
}

func none(c api.Core) bool { return equal(c, api.Core{}) }

// words are the keywords, as the definitions list them.
var words = strings.Fields("quote if lambda set! begin define let let* letrec and or cond when unless define-syntax let-syntax")

// denoted is what an identifier denotes: "variable", "macro", "keyword" or "global".
type denoted struct {
	kind     string
	text     string
	variable int
	macro    *rules
}

// rules are a macro's, and its scope.
type rules struct {
	scope    int
	literals []api.Datum
	list     []api.Rule
}

// frame is a scope.
type frame struct {
	up int
	id string
	is denoted
}

// model is what an expander should have.
type model struct {
	frames []frame
	marks  []int // the scope of each; there is no mark 0
	macros map[string]*rules
	vars   int
	steps  int // of the last form
}

func newModel() *model {
	return &model{frames: make([]frame, 1), marks: make([]int, 1), macros: map[string]*rules{}}
}

func (m *model) clone() *model {
	return &model{slices.Clone(m.frames), slices.Clone(m.marks), maps.Clone(m.macros), m.vars, m.steps}
}

// fail is an error on its way out.
type fail api.Errno

func expect(ok bool, e api.Errno) {
	if !ok {
		panic(fail(e))
	}
}

func syntax(ok bool) { expect(ok, api.ErrSyntax) }

// form is what Form should answer.
func (m *model) form(x api.Datum) (c api.Core, e api.Errno) {
	if e := datum.Check(x); e != api.OK {
		return api.Core{}, e
	}
	trial := m.clone()
	trial.steps = 0
	defer func() {
		if r := recover(); r != nil {
			c, e = api.Core{}, api.Errno(r.(fail))
		}
		m.steps = trial.steps
	}()
	c = trial.core(datum.Clone(x), 0, true)
	e = core.Check(c)
	expect(e == api.OK, e)
	*m = *trial
	return c, api.OK
}

// program is what Program should answer.
func (m *model) program(l ...api.Datum) (api.Core, int, api.Errno) {
	whole := api.Core{K: api.CoSeq}
	for i, x := range l {
		c, e := m.form(x)
		if e != api.OK {
			return api.Core{}, i, e
		}
		whole.L = append(whole.L, c)
	}
	if len(l) == 0 {
		return boolean(0), 0, api.OK
	}
	if e := core.Check(whole); e != api.OK {
		return api.Core{}, len(l), e
	}
	return whole, 0, api.OK
}

// find is what binds an identifier in a scope; nothing, and its text, if it is free.
func (m *model) find(id api.Datum, s int) (int, string) {
	for _, mark := range id.M {
		expect(mark < len(m.marks), api.ErrScope)
	}
	for {
		for at := s; at != 0; at = m.frames[at].up {
			if m.frames[at].id == key(id) {
				return at, ""
			}
		}
		last := len(id.M) - 1
		if last < 0 {
			return 0, id.S
		}
		s = m.marks[id.M[last]]
		id.M = id.M[:last]
	}
}

func (m *model) denotes(id api.Datum, s int) denoted {
	at, name := m.find(id, s)
	switch {
	case at != 0:
		return m.frames[at].is
	case slices.Contains(words, name):
		return denoted{kind: "keyword", text: name}
	case m.macros[name] != nil:
		return denoted{kind: "macro", macro: m.macros[name]}
	}
	return denoted{kind: "global", text: name}
}

func (m *model) bind(s int, id api.Datum, is denoted) int {
	expect(len(m.frames) < 1<<14, api.ErrFull)
	m.frames = append(m.frames, frame{s, key(id), is})
	return len(m.frames) - 1
}

func (m *model) variable() int {
	m.vars++
	return m.vars
}

func isSym(x api.Datum) bool  { return x.K == api.DSym }
func isList(x api.Datum) bool { return x.K == api.DList }

func plain(x api.Datum) api.Datum {
	x = datum.Clone(x)
	each(&x, func(x *api.Datum) { x.M = nil })
	return x
}

func constant(x api.Datum) api.Core { return api.Core{K: api.CoConst, D: plain(x)} }
func boolean(n int64) api.Core      { return constant(api.Datum{K: api.DBool, N: n}) }
func local(v int) api.Core          { return api.Core{K: api.CoLocal, N: int64(v)} }
func node(k int, l ...api.Core) api.Core {
	return api.Core{K: k, L: l}
}
func lambda(p []int, c api.Core) api.Core { return api.Core{K: api.CoLambda, P: p, L: []api.Core{c}} }

// core is the translation of a datum in a scope.
func (m *model) core(x api.Datum, s int, top bool) api.Core {
	expect(m.steps < 4096, api.ErrSteps)
	m.steps++
	switch x.K {
	case api.DFix, api.DBool, api.DChar, api.DStr, api.DVec:
		return constant(x)
	case api.DSym:
		is := m.denotes(x, s)
		if is.kind == "variable" {
			return local(is.variable)
		}
		syntax(is.kind == "global")
		return api.Core{K: api.CoGlobal, S: is.text}
	}
	syntax(isList(x) && len(x.L) > 0)
	if head := x.L[0]; isSym(head) {
		switch is := m.denotes(head, s); is.kind {
		case "keyword":
			return m.special(is.text, x.L, s, top)
		case "macro":
			return m.core(m.use(is.macro, x, s), s, top)
		}
	}
	return node(api.CoCall, m.cores(x.L, s)...)
}

func (m *model) cores(l []api.Datum, s int) []api.Core {
	var out []api.Core
	for _, x := range l {
		out = append(out, m.core(x, s, false))
	}
	return out
}

func (m *model) body(l []api.Datum, s int, top bool) api.Core {
	if len(l) == 1 {
		return m.core(l[0], s, top)
	}
	c := node(api.CoSeq)
	for _, x := range l {
		c.L = append(c.L, m.core(x, s, top))
	}
	return c
}

// use is what a macro makes of a form.
func (m *model) use(r *rules, x api.Datum, s int) api.Datum {
	expect(len(m.marks) <= 1<<14, api.ErrFull)
	m.marks = append(m.marks, r.scope)
	out, _, e := pattern.Expand(r.literals, x, len(m.marks)-1, func(lit, id api.Datum) bool { return m.same(lit, r.scope, id, s) }, r.list...)
	expect(e == api.OK, e)
	return out
}

func (m *model) same(a api.Datum, s int, b api.Datum, z int) bool {
	for _, mark := range append(slices.Clone(a.M), b.M...) {
		if mark >= len(m.marks) {
			return false
		}
	}
	one, name := m.find(a, s)
	other, text := m.find(b, z)
	return one == other && name == text
}

func (m *model) isFree(id api.Datum, s int, name string) bool {
	at, text := m.find(id, s)
	return at == 0 && text == name
}

// defines is a macro definition.
func (m *model) defines(x api.Datum, s int) *rules {
	syntax(isList(x) && len(x.L) >= 2 && isSym(x.L[0]) && isList(x.L[1]))
	syntax(m.isFree(x.L[0], s, "syntax-rules"))
	r := &rules{scope: s, literals: x.L[1].L}
	for _, rule := range x.L[2:] {
		syntax(isList(rule) && len(rule.L) == 2)
		one := api.Rule{Pat: rule.L[0], Tmpl: rule.L[1]}
		e := pattern.Check(r.literals, one)
		expect(e == api.OK, e)
		r.list = append(r.list, one)
	}
	return r
}

func differ(ids []api.Datum) bool {
	for i, x := range ids {
		for _, y := range ids[:i] {
			if key(x) == key(y) {
				return false
			}
		}
	}
	return true
}

// pairs are the two columns of ((x e) ..).
func pairs(x api.Datum, different bool) (ids, values []api.Datum) {
	syntax(isList(x))
	for _, y := range x.L {
		syntax(isList(y) && len(y.L) == 2 && isSym(y.L[0]))
		ids, values = append(ids, y.L[0]), append(values, y.L[1])
	}
	syntax(!different || differ(ids))
	return ids, values
}

// fresh are new variables for identifiers, and the scope that binds them.
func (m *model) fresh(ids []api.Datum, s int) ([]int, int) {
	var vars []int
	for range ids {
		vars = append(vars, m.variable())
	}
	for i, id := range ids {
		s = m.bind(s, id, denoted{kind: "variable", variable: vars[i]})
	}
	return vars, s
}

// special is the translation of a list that begins with a keyword.
func (m *model) special(word string, l []api.Datum, s int, top bool) api.Core {
	many := len(l) - 1 // how many elements are behind the keyword
	switch word {
	case "quote":
		syntax(many == 1)
		return constant(l[1])
	case "if":
		syntax(many == 2 || many == 3)
		c := node(api.CoIf, m.cores(l[1:], s)...)
		if many == 2 {
			c.L = append(c.L, boolean(0))
		}
		return c
	case "begin":
		syntax(many >= 1)
		return m.body(l[1:], s, top)
	case "when", "unless":
		syntax(many >= 2)
		a, b := m.core(l[1], s, false), m.body(l[2:], s, false)
		if word == "when" {
			return node(api.CoIf, a, b, boolean(0))
		}
		return node(api.CoIf, a, boolean(0), b)
	case "and":
		return m.and(l[1:], s)
	case "or":
		return m.or(l[1:], s)
	case "cond":
		m.clausesFit(l[1:], s)
		return m.cond(l[1:], s)
	case "set!":
		return m.set(l, s)
	case "define", "define-syntax":
		syntax(top)
		return m.top(word, l, s)
	}
	return m.binder(word, l, s)
}

func (m *model) set(l []api.Datum, s int) api.Core {
	syntax(len(l) == 3 && isSym(l[1]))
	c := api.Core{}
	switch is := m.denotes(l[1], s); is.kind {
	case "variable":
		c = api.Core{K: api.CoSet, N: int64(is.variable)}
	case "global":
		c = api.Core{K: api.CoAssign, S: is.text}
	default:
		syntax(false)
	}
	c.L = m.cores(l[2:], s)
	return c
}

func (m *model) and(l []api.Datum, s int) api.Core {
	if len(l) == 0 {
		return boolean(1)
	}
	a := m.core(l[0], s, false)
	if len(l) == 1 {
		return a
	}
	return node(api.CoIf, a, m.and(l[1:], s), boolean(0))
}

func (m *model) or(l []api.Datum, s int) api.Core {
	if len(l) == 0 {
		return boolean(0)
	}
	a := m.core(l[0], s, false)
	if len(l) == 1 {
		return a
	}
	v := m.variable()
	return orElse(a, v, m.or(l[1:], s))
}

func orElse(a api.Core, v int, r api.Core) api.Core {
	return node(api.CoCall, lambda([]int{v}, node(api.CoIf, local(v), local(v), r)), a)
}

func (m *model) clausesFit(l []api.Datum, s int) {
	for i, clause := range l {
		syntax(isList(clause) && len(clause.L) > 0)
		if head := clause.L[0]; isSym(head) && head.S == "else" && m.isFree(head, s, "else") {
			syntax(i == len(l)-1 && len(clause.L) > 1)
		}
	}
}

func (m *model) cond(l []api.Datum, s int) api.Core {
	if len(l) == 0 {
		return boolean(0)
	}
	clause := l[0].L
	if isSym(clause[0]) && clause[0].S == "else" && m.isFree(clause[0], s, "else") {
		return m.body(clause[1:], s, false)
	}
	a := m.core(clause[0], s, false)
	if len(clause) == 1 {
		v := m.variable()
		return orElse(a, v, m.cond(l[1:], s))
	}
	b := m.body(clause[1:], s, false)
	return node(api.CoIf, a, b, m.cond(l[1:], s))
}

// top is the translation of a definition.
func (m *model) top(word string, l []api.Datum, s int) api.Core {
	syntax(len(l) >= 2)
	id, value := l[1], l[2:]
	procedure := word == "define" && !isSym(id)
	if procedure {
		syntax((isList(id) || id.K == api.DDot) && len(id.L) > 0)
		p, _ := datum.Cdr(id)
		id, value = id.L[0], append([]api.Datum{sym("lambda"), p}, value...)
	} else {
		syntax(len(l) == 3)
	}
	syntax(isSym(id))
	at, name := m.find(id, s)
	syntax(at == 0 && !slices.Contains(words, name))
	if word == "define-syntax" {
		m.macros[name] = m.defines(l[2], s)
		return boolean(0)
	}
	delete(m.macros, name)
	c := api.Core{K: api.CoDefine, S: name}
	if procedure {
		c.L = []api.Core{m.binder("lambda", value, s)}
	} else {
		c.L = m.cores(value, s)
	}
	return c
}

// binder is the translation of what binds identifiers.
func (m *model) binder(word string, l []api.Datum, s int) api.Core {
	syntax(len(l) >= 3)
	body := l[2:]
	if word == "lambda" {
		p := l[1]
		ids := slices.Clone(p.L)
		if p.K == api.DDot {
			ids = append(ids, p.T[0])
		}
		if isSym(p) {
			ids = []api.Datum{p}
		}
		syntax((isSym(p) || isList(p) || p.K == api.DDot) && !slices.ContainsFunc(ids, func(x api.Datum) bool { return !isSym(x) }) && differ(ids))
		vars, in := m.fresh(ids, s)
		c := lambda(vars, m.body(body, in, false))
		if !isList(p) {
			c.N = 1
		}
		return c
	}
	ids, values := pairs(l[1], word != "let*")
	switch word {
	case "let":
		args := m.cores(values, s)
		vars, in := m.fresh(ids, s)
		return node(api.CoCall, append([]api.Core{lambda(vars, m.body(body, in, false))}, args...)...)
	case "let*":
		return m.letStar(ids, values, body, s)
	case "letrec":
		return m.letrec(ids, values, body, s)
	}
	var macros []*rules
	for _, x := range values {
		macros = append(macros, m.defines(x, s))
	}
	for i, id := range ids {
		s = m.bind(s, id, denoted{kind: "macro", macro: macros[i]})
	}
	return m.body(body, s, false)
}

func (m *model) letStar(ids, values, body []api.Datum, s int) api.Core {
	if len(ids) == 0 {
		return m.body(body, s, false)
	}
	arg := m.core(values[0], s, false)
	vars, in := m.fresh(ids[:1], s)
	return node(api.CoCall, lambda(vars, m.letStar(ids[1:], values[1:], body, in)), arg)
}

func (m *model) letrec(ids, values, body []api.Datum, s int) api.Core {
	vars, in := m.fresh(ids, s)
	seq, whole := node(api.CoSeq), node(api.CoCall, api.Core{})
	for i, v := range vars {
		seq.L = append(seq.L, api.Core{K: api.CoSet, N: int64(v), L: m.cores(values[i:i+1], in)})
		whole.L = append(whole.L, boolean(0))
	}
	seq.L = append(seq.L, m.body(body, in, false))
	whole.L[0] = lambda(vars, seq)
	return whole
}

// twin is an expander and what it should have.
type twin struct {
	t *testing.T
	x *expand.Expander
	m *model
}

func newTwin(t *testing.T, forms ...string) *twin {
	w := &twin{t, expand.New(), newModel()}
	for _, s := range forms {
		if _, e := w.form(d(s)); e != api.OK {
			t.Helper()
			t.Fatalf("%s: %d", s, int(e))
		}
	}
	return w
}

func (w *twin) clone() *twin { return &twin{w.t, w.x.Clone(), w.m.clone()} }

// form holds Form, P8.1.
func (w *twin) form(x api.Datum) (api.Core, api.Errno) {
	w.t.Helper()
	want, f := w.m.form(x)
	c, e := w.x.Form(x)
	if e != f || !equal(c, want) {
		w.t.Fatalf("%s is %s, %d, not %s, %d", textOf(x), brief(c), int(e), brief(want), int(f))
	}
	w.state()
	return c, e
}

// program holds Program, P8.2.
func (w *twin) program(l ...api.Datum) (api.Core, int, api.Errno) {
	w.t.Helper()
	want, many, f := w.m.program(l...)
	c, n, e := w.x.Program(l...)
	if e != f || n != many || !equal(c, want) {
		w.t.Fatalf("a program of %d forms, %s, is %s, %d, %d, not %s, %d, %d", len(l), textOf(list(l...)), brief(c), n, int(e), brief(want), many, int(f))
	}
	w.state()
	return c, n, e
}

// state holds Vars and Macros, P8.2.
func (w *twin) state() {
	w.t.Helper()
	if got, want := slices.Collect(w.x.Macros()), slices.Sorted(maps.Keys(w.m.macros)); !slices.Equal(got, want) {
		w.t.Fatalf("Macros yields %q, not %q", got, want)
	}
	if got := w.x.Vars(); got != w.m.vars {
		w.t.Fatalf("Vars is %d, not %d", got, w.m.vars)
	}
}

// picker picks numbers, the same ones each time.
type picker uint64

func newPicker(seed int) *picker {
	p := picker(seed*2654435761 + 88172645463325252)
	for range 5 {
		p.pick(2)
	}
	return &p
}

func (p *picker) pick(below int) int {
	*p ^= *p << 13
	*p ^= *p >> 7
	*p ^= *p << 17
	return int(*p>>11) % below
}

// one is one of these.
func one[T any](p *picker, l ...T) T { return l[p.pick(len(l))] }
