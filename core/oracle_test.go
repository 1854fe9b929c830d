package core_test

import (
	"slices"
	"strconv"
	"strings"
	"testing"

	"shuttle/api"
	"shuttle/core"
	"shuttle/datum"
	"shuttle/read"
)

// Core expressions by the words of the definitions alone, against which the tests hold the package.

// d is the datum of a text; a symbol x^1^2 is x with the marks 1 and 2.
func d(s string) api.Datum {
	x, e := read.One(s)
	if e != api.OK {
		panic(s)
	}
	mark(&x)
	return x
}

func mark(x *api.Datum) {
	if parts := strings.Split(x.S, "^"); x.K == api.DSym && len(parts) > 1 {
		x.S = parts[0]
		for _, m := range parts[1:] {
			n, _ := strconv.Atoi(m)
			x.M = append(x.M, n)
		}
	}
	for _, l := range [][]api.Datum{x.L, x.T} {
		for i := range l {
			mark(&l[i])
		}
	}
}

// e is the expression of a text, valid or not.
func e(s string) api.Core { return guess(d(s)) }

func sym(s string, m ...int) api.Datum { return api.Datum{K: api.DSym, S: s, M: m} }
func num(n int64) api.Datum            { return api.Datum{K: api.DFix, N: n} }
func list(l ...api.Datum) api.Datum    { return api.Datum{K: api.DList, L: l} }

func constant(d api.Datum) api.Core { return api.Core{K: api.CoConst, D: d} }
func local(n int64) api.Core        { return api.Core{K: api.CoLocal, N: n} }
func global(s string) api.Core      { return api.Core{K: api.CoGlobal, S: s} }
func seq(l ...api.Core) api.Core    { return api.Core{K: api.CoSeq, L: l} }
func call(l ...api.Core) api.Core   { return api.Core{K: api.CoCall, L: l} }
func set(n int64, x api.Core) api.Core {
	return api.Core{K: api.CoSet, N: n, L: []api.Core{x}}
}
func define(s string, x api.Core) api.Core {
	return api.Core{K: api.CoDefine, S: s, L: []api.Core{x}}
}
func lambda(x api.Core, p ...int) api.Core {
	return api.Core{K: api.CoLambda, P: p, L: []api.Core{x}}
}

// nest is x within so many sequences.
func nest(count int, x api.Core) api.Core {
	for range count {
		x = seq(x)
	}
	return x
}

// many are so many of x.
func many(count int, x api.Core) []api.Core {
	l := make([]api.Core, count)
	for i := range l {
		l[i] = x
	}
	return l
}

// upTo are the numbers from 1.
func upTo(n int) []int {
	l := make([]int, n)
	for i := range l {
		l[i] = i + 1
	}
	return l
}

func with(c api.Core, change func(c *api.Core)) api.Core {
	change(&c)
	return c
}

// guess takes from a list what an expression that is written so would have to have, whether it is one or not.
func guess(x api.Datum) api.Core {
	at := func(i int) api.Datum {
		if i < len(x.L) {
			return x.L[i]
		}
		return api.Datum{}
	}
	c := api.Core{}
	parts := 2
	switch at(0).S {
	case "const":
		c = constant(at(1))
	case "local":
		c = local(at(1).N)
	case "global":
		c = global(at(1).S)
	case "set":
		c = api.Core{K: api.CoSet, N: at(1).N}
	case "assign":
		c = api.Core{K: api.CoAssign, S: at(1).S}
	case "define":
		c = api.Core{K: api.CoDefine, S: at(1).S}
	case "lambda", "lambda*":
		c = api.Core{K: api.CoLambda}
		if at(0).S == "lambda*" {
			c.N = 1
		}
		for _, p := range at(1).L {
			c.P = append(c.P, int(p.N))
		}
	case "if":
		c, parts = api.Core{K: api.CoIf}, 1
	case "seq":
		c, parts = api.Core{K: api.CoSeq}, 1
	case "call":
		c, parts = api.Core{K: api.CoCall}, 1
	}
	for i := parts; i < len(x.L); i++ {
		c.L = append(c.L, guess(x.L[i]))
	}
	return c
}

// listOf is the list as which an expression that has an end is written.
func listOf(c api.Core) api.Datum {
	head := map[int]string{1: "const", 2: "local", 3: "global", 4: "set", 5: "assign", 6: "define", 7: "if", 8: "lambda", 9: "seq", 10: "call"}[c.K]
	if len(c.P) > 0 && c.N == 1 {
		head = "lambda*"
	}
	l := list(sym(head))
	switch head {
	case "const":
		l.L = append(l.L, c.D)
	case "local", "set":
		l.L = append(l.L, num(c.N))
	case "global", "assign", "define":
		l.L = append(l.L, sym(c.S))
	case "lambda", "lambda*":
		p := list()
		for _, v := range c.P {
			p.L = append(p.L, num(int64(v)))
		}
		l.L = append(l.L, p)
	}
	for _, x := range c.L {
		l.L = append(l.L, listOf(x))
	}
	return l
}

// text is the list as which an expression is written, of one that has no end its beginning.
func text(c api.Core) string {
	s := strings.Builder{}
	write(&s, c)
	return s.String()
}

func write(s *strings.Builder, c api.Core) {
	if s.Len() > 20000 {
		return
	}
	s.WriteString("(")
	switch c.K {
	case api.CoConst:
		x, _ := read.Print(c.D)
		s.WriteString("const " + x)
	case api.CoLocal:
		s.WriteString("local " + strconv.FormatInt(c.N, 10))
	case api.CoGlobal:
		s.WriteString("global " + c.S)
	case api.CoSet:
		s.WriteString("set " + strconv.FormatInt(c.N, 10))
	case api.CoAssign:
		s.WriteString("assign " + c.S)
	case api.CoDefine:
		s.WriteString("define " + c.S)
	case api.CoIf:
		s.WriteString("if")
	case api.CoLambda:
		s.WriteString("lambda" + strings.Repeat("*", int(c.N&1)) + " (")
		for i, p := range c.P[:min(len(c.P), 40)] {
			s.WriteString(strings.Repeat(" ", min(i, 1)) + strconv.Itoa(p))
		}
		s.WriteString(")")
	case api.CoSeq:
		s.WriteString("seq")
	case api.CoCall:
		s.WriteString("call")
	}
	for _, x := range c.L {
		s.WriteString(" ")
		write(s, x)
	}
	s.WriteString(")")
}

// brief is a text's beginning, for messages.
func brief(c api.Core) string {
	s := text(c)
	return s[:min(len(s), 300)]
}

func equalDatum(a, b api.Datum) bool {
	return a.K == b.K && a.N == b.N && a.S == b.S && slices.Equal(a.M, b.M) && slices.EqualFunc(a.L, b.L, equalDatum) && slices.EqualFunc(a.T, b.T, equalDatum)
}

func equal(a, b api.Core) bool {
	return a.K == b.K && a.N == b.N && a.S == b.S && equalDatum(a.D, b.D) && slices.Equal(a.P, b.P) && slices.EqualFunc(a.L, b.L, equal)
}

func none(c api.Core) bool { return equal(c, api.Core{}) }

func hasMarks(x api.Datum) bool {
	return len(x.M) > 0 || slices.ContainsFunc(x.L, hasMarks) || slices.ContainsFunc(x.T, hasMarks)
}

// alone tells whether an expression is valid by itself: whether it is the one of its kind that has just the fields that are mentioned.
func alone(c api.Core) bool {
	variable := 1 <= c.N && c.N <= 1<<20
	is := api.Core{K: c.K, L: c.L}
	switch c.K {
	case api.CoConst:
		is.D = c.D
		return datum.Check(c.D) == api.OK && !hasMarks(c.D) && len(c.L) == 0 && equal(c, is)
	case api.CoLocal:
		is.N = c.N
		return variable && len(c.L) == 0 && fields(c, is)
	case api.CoGlobal:
		is.S = c.S
		return datum.Symbol(c.S) && len(c.L) == 0 && fields(c, is)
	case api.CoSet:
		is.N = c.N
		return variable && len(c.L) == 1 && fields(c, is)
	case api.CoAssign, api.CoDefine:
		is.S = c.S
		return datum.Symbol(c.S) && len(c.L) == 1 && fields(c, is)
	case api.CoIf:
		return len(c.L) == 3 && fields(c, is)
	case api.CoLambda:
		is.N, is.P = c.N, c.P
		p := slices.Clone(c.P)
		slices.Sort(p)
		ok := len(p) <= 32 && len(slices.Compact(p)) == len(c.P) && (len(c.P) == 0 || p[0] >= 1 && slices.Max(c.P) <= 1<<20)
		return ok && (c.N == 0 || c.N == 1 && len(c.P) > 0) && len(c.L) == 1 && fields(c, is)
	case api.CoSeq, api.CoCall:
		return len(c.L) > 0 && fields(c, is)
	}
	return false
}

// fields tells whether two have the same fields, besides L.
func fields(a, b api.Core) bool {
	a.L, b.L = nil, nil
	return equal(a, b)
}

// spot is a node, which node's L it is in (-1: none's), and how deep it is.
type spot struct {
	c    api.Core
	up   int
	deep int
}

// spots are the nodes in order, up to the first that is too deep or one too many.
func spots(c api.Core) []spot {
	var l []spot
	var walk func(c api.Core, up, deep int) bool
	walk = func(c api.Core, up, deep int) bool {
		at := len(l)
		l = append(l, spot{c, up, deep})
		if deep > 128 || len(l) > 8192 {
			return false
		}
		for _, x := range c.L {
			if !walk(x, at, deep+1) {
				return false
			}
		}
		return true
	}
	walk(c, -1, 1)
	return l
}

func uses(c api.Core) bool { return c.K == api.CoLocal || c.K == api.CoSet }

// bound tells whether a CoLambda whose L contains a node binds a variable.
func bound(l []spot, at int, v int) bool {
	for at = l[at].up; at >= 0; at = l[at].up {
		if l[at].c.K == api.CoLambda && slices.Contains(l[at].c.P, v) {
			return true
		}
	}
	return false
}

// top tells whether a node stands where a CoDefine may.
func top(l []spot, at int) bool {
	up := l[at].up
	return up < 0 || l[up].c.K == api.CoSeq && top(l, up)
}

// wrong is what Check should answer; loose: if every CoLocal and CoSet were in its scope.
func wrong(c api.Core, loose bool, within ...int) api.Errno {
	l := spots(c)
	taken := slices.Clone(within)
	for i, s := range l {
		switch {
		case s.deep > 128:
			return api.ErrDeep
		case i >= 8192:
			return api.ErrLong
		case !alone(s.c):
			return api.ErrCore
		case uses(s.c) && !loose && !slices.Contains(within, int(s.c.N)) && !bound(l, i, int(s.c.N)):
			return api.ErrCore
		case s.c.K == api.CoDefine && !top(l, i):
			return api.ErrCore
		}
		for _, p := range s.c.P {
			if slices.Contains(taken, p) {
				return api.ErrCore
			}
		}
		taken = append(taken, s.c.P...)
	}
	return api.OK
}

// told is what the package should answer for an expression without variables within.
type told struct {
	e       api.Errno // what Check would return if every CoLocal and CoSet were in its scope
	open    bool
	free    []int
	set     []int
	globals []string
	nodes   []api.Core
	bound   []int
}

func tell(c api.Core) told {
	a := told{e: wrong(c, true)}
	if a.e != api.OK {
		return a
	}
	l := spots(c)
	for i, s := range l {
		if uses(s.c) && !bound(l, i, int(s.c.N)) {
			a.free = append(a.free, int(s.c.N))
		}
		if s.c.K == api.CoSet {
			a.set = append(a.set, int(s.c.N))
		}
		if s.c.K == api.CoGlobal || s.c.K == api.CoAssign || s.c.K == api.CoDefine {
			a.globals = append(a.globals, s.c.S)
		}
		a.nodes = append(a.nodes, s.c)
		a.bound = append(a.bound, s.c.P...)
	}
	for _, v := range a.bound {
		if slices.Contains(a.free, v) {
			return told{e: api.OK}
		}
	}
	a.open = true
	slices.Sort(a.free)
	slices.Sort(a.set)
	slices.Sort(a.globals)
	a.free, a.set, a.globals = slices.Compact(a.free), slices.Compact(a.set), slices.Compact(a.globals)
	return a
}

// holds holds all calls on one expression against the definitions, P7.1, P7.3 and P7.4; it is open if this answers true.
func holds(t *testing.T, c api.Core, withins ...[]int) bool {
	t.Helper()
	a := tell(c)
	for _, within := range append(withins, nil, a.free) {
		if got, want := core.Check(c, within...), wrong(c, false, within...); got != want {
			t.Fatalf("Check(%s, %v): %d, not %d", brief(c), within, got, want)
		}
	}
	if got := core.Free(c); !slices.Equal(got, a.free) {
		t.Fatalf("Free(%s): %v, not %v", brief(c), got, a.free)
	}
	if got := core.Set(c); !slices.Equal(got, a.set) {
		t.Fatalf("Set(%s): %v, not %v", brief(c), got, a.set)
	}
	if got := core.Globals(c); !slices.Equal(got, a.globals) {
		t.Fatalf("Globals(%s): %q, not %q", brief(c), got, a.globals)
	}
	if got := slices.Collect(core.All(c)); !slices.EqualFunc(got, a.nodes, equal) {
		t.Fatalf("All(%s): %d nodes, of which some are others, not %d", brief(c), len(got), len(a.nodes))
	}
	holdsWritten(t, c, a)
	return a.open
}

func holdsWritten(t *testing.T, c api.Core, a told) {
	t.Helper()
	want, e := api.Datum{}, a.e
	if e == api.OK && !a.open {
		e = api.ErrCore
	}
	if e == api.OK {
		want = listOf(c)
		e = datum.Check(want)
	}
	if e != api.OK {
		want = api.Datum{}
	}
	got, f := core.Datum(c)
	if f != e || !equalDatum(got, want) {
		t.Fatalf("Datum(%s): %d, not %d, or another datum", brief(c), f, e)
	}
	if e != api.OK {
		return
	}
	if back, f := core.Of(got); f != api.OK || !equal(back, c) {
		t.Fatalf("Of of Datum of %s: %s, %d", brief(c), brief(back), f)
	}
}

// holdsOf holds Of against the definitions, P7.4: the only expression that a valid datum may tell is the guess.
func holdsOf(t *testing.T, x api.Datum) bool {
	t.Helper()
	want, e := guess(x), datum.Check(x)
	if e == api.OK {
		if !tell(want).open || !equalDatum(listOf(want), x) {
			e = api.ErrCore
		}
	}
	if e != api.OK {
		want = api.Core{}
	}
	got, f := core.Of(x)
	if f != e || !equal(got, want) {
		s, _ := read.Print(x)
		t.Fatalf("Of(%s): %s, %d, not %s, %d", s, brief(got), f, brief(want), e)
	}
	if e == api.OK {
		if back, f := core.Datum(got); f != api.OK || !equalDatum(back, x) {
			t.Fatalf("Datum of Of of %s: %d, or another datum", text(got), f)
		}
	}
	return e == api.OK
}
