package scope_test

import (
	"slices"
	"strings"
	"testing"

	"shuttle/api"
	"shuttle/scope"
)

// A table that is resolved by the words of the definition alone, against which the tests hold the package, and what they go through.

func sym(s string, m ...int) api.Datum { return api.Datum{K: api.DSym, S: s, M: m} }

func equal(x, y api.Datum) bool {
	return x.K == y.K && x.N == y.N && x.S == y.S && slices.Equal(x.M, y.M) && len(x.L)+len(y.L)+len(x.T)+len(y.T) == 0
}

// entry is a scope of the record.
type entry struct {
	parent int
	id     api.Datum
	what   int64
}

// record is what was made: scopes from 1 on and the scopes of marks from 1 on; the ones numbered 0 stand for nothing.
type record struct {
	scopes []entry
	marks  []int
}

func (r *record) find(scope int, id api.Datum) api.Seen {
	for s := scope; s != 0; s = r.scopes[s].parent {
		if equal(r.scopes[s].id, id) {
			return api.Seen{Scope: s, What: r.scopes[s].what}
		}
	}
	if len(id.M) == 0 {
		return api.Seen{Name: id.S}
	}
	last := len(id.M) - 1
	return r.find(r.marks[id.M[last]], sym(id.S, id.M[:last]...))
}

// named is an entry of Names.
type named struct {
	scope int
	id    api.Datum
}

func (r *record) names(scope int) []named {
	var l []named
	for s := scope; s != 0; s = r.scopes[s].parent {
		l = append(l, named{s, r.scopes[s].id})
	}
	return l
}

func names(t *scope.Table, s int) []named {
	var l []named
	for k, id := range t.Names(s) {
		l = append(l, named{k, id})
	}
	return l
}

func alike(a, b []named) bool {
	return slices.EqualFunc(a, b, func(x, y named) bool { return x.scope == y.scope && equal(x.id, y.id) })
}

// twin is a table, and the record of it.
type twin struct {
	*testing.T
	table *scope.Table
	record
}

func newTwin(t *testing.T) *twin {
	return &twin{t, scope.New(), record{make([]entry, 1), make([]int, 1)}}
}

// clone is both again.
func (w *twin) clone() *twin {
	return &twin{w.T, w.table.Clone(), record{slices.Clone(w.scopes), slices.Clone(w.marks)}}
}

func (w *twin) extend(parent int, id api.Datum, what int64) int {
	w.Helper()
	n, e := w.table.Extend(parent, id, what)
	if n != len(w.scopes) || e != api.OK {
		w.Fatalf("Extend(%d, %v) is %d, %d, not %d", parent, id, n, int(e), len(w.scopes))
	}
	w.scopes = append(w.scopes, entry{parent, id, what})
	return n
}

func (w *twin) mark(of int) int {
	w.Helper()
	n, e := w.table.Mark(of)
	if n != len(w.marks) || e != api.OK {
		w.Fatalf("Mark(%d) is %d, %d, not %d", of, n, int(e), len(w.marks))
	}
	w.marks = append(w.marks, of)
	return n
}

// see is what Find answers, which has to be what the record says.
func (w *twin) see(s int, id api.Datum) api.Seen {
	w.Helper()
	seen, e := w.table.Find(s, id)
	if want := w.find(s, id); seen != want || e != api.OK {
		w.Fatalf("%v, marks %v: Find(%d, %v) is %v, %d, not %v", w.scopes[1:], w.marks[1:], s, id, seen, int(e), want)
	}
	return seen
}

// check holds the whole table against the record: sizes, names, and what these identifiers mean in every scope.
func (w *twin) check(ids ...api.Datum) {
	w.Helper()
	if s, m := w.table.Sizes(); s != len(w.scopes) || m != len(w.marks)-1 {
		w.Fatalf("Sizes is %d, %d, not %d, %d", s, m, len(w.scopes), len(w.marks)-1)
	}
	for s := range w.scopes {
		if l := names(w.table, s); !alike(l, w.names(s)) {
			w.Fatalf("Names(%d) is %v, not %v", s, l, w.names(s))
		}
		for _, id := range ids {
			w.see(s, id)
		}
	}
}

// known are those of these identifiers all of whose marks were made.
func (w *twin) known(ids []api.Datum) []api.Datum {
	var l []api.Datum
	for _, id := range ids {
		if !slices.ContainsFunc(id.M, func(m int) bool { return m >= len(w.marks) }) {
			l = append(l, id)
		}
	}
	return l
}

// picker picks numbers, the same ones each time.
type picker uint64

func (p *picker) pick(below int) int {
	*p ^= *p << 13
	*p ^= *p >> 7
	*p ^= *p << 17
	return int(*p>>11) % below
}

// id is an identifier with marks below a number, which are few more often than many.
func (p *picker) id(marks int) api.Datum {
	d := sym([]string{"x", "y", "x1", "set!", "..."}[p.pick(5)])
	if marks > 1 {
		for range p.pick(1 + p.pick(1+p.pick(17))) {
			d.M = append(d.M, 1+p.pick(marks-1))
		}
	}
	return d
}

// grow makes so many scopes and marks, mixed, and answers the identifiers that are bound, their parts, and some more.
// That what is bound may have a mark that isn't made yet is part of it.
func (w *twin) grow(p *picker, steps int) []api.Datum {
	var ids []api.Datum
	for range steps {
		of := p.pick(len(w.scopes))
		if p.pick(2) == 0 {
			of = len(w.scopes) - 1 // a chain, rather than a bush
		}
		if p.pick(3) == 0 {
			w.mark(of)
			continue
		}
		id := p.id(len(w.marks) + p.pick(2))
		if len(ids) > 0 && p.pick(3) == 0 {
			id = ids[p.pick(len(ids))]
		}
		w.extend(of, id, int64(p.pick(9))-4)
		ids = append(ids, id)
	}
	for _, id := range slices.Clone(ids) {
		for n := range id.M {
			ids = append(ids, sym(id.S, id.M[:n]...), sym(id.S, id.M[n:]...), sym("z", id.M[n:]...))
		}
		if len(id.M) < 16 {
			ids = append(ids, sym(id.S, append(slices.Clone(id.M), 1+p.pick(len(w.marks)))...))
		}
	}
	for range 30 {
		ids = append(ids, p.id(len(w.marks)))
	}
	return w.known(ids)
}

// wrong are data that are no valid symbols, each call makes them anew.
func wrong() []api.Datum {
	list := func(l ...api.Datum) api.Datum { return api.Datum{K: api.DList, L: l} }
	deep, round := sym("x"), list(sym("x"))
	for range 100 {
		deep = list(deep)
	}
	round.L[0] = round
	l := []api.Datum{
		{}, {K: -1}, {K: 9}, {K: 1 << 40}, {S: "x"}, {S: "x", M: []int{1}},
		{K: api.DFix, N: 7}, {K: api.DBool, N: 1}, {K: api.DChar, N: 'x'}, {K: api.DStr, S: "x"},
		list(), list(sym("x")), {K: api.DVec, L: []api.Datum{sym("x")}}, {K: api.DDot, L: []api.Datum{sym("x")}, T: []api.Datum{sym("x")}},
		deep, round, list(slices.Repeat([]api.Datum{sym("x")}, 5000)...),
		sym(""), sym("1"), sym("x y"), sym("-x"), sym(".."), sym("x\x80"), sym("x\x00"), sym("\u00e9"), sym(strings.Repeat("x", 33)),
		sym("", 1), sym("1", 1), sym("x", 0), sym("x", -1), sym("x", 1, 0), sym("x", 0, 1), sym("x", -1<<63), sym("x", 1<<20+1), sym("x", 1, 1<<20+1), sym("x", 1<<32+1), sym("x", 1<<63-1),
		sym("x", slices.Repeat([]int{1}, 17)...), sym("x", slices.Repeat([]int{1}, 5000)...),
		{K: api.DSym, S: "x", N: 1}, {K: api.DSym, S: "x", N: -1 << 63}, {K: api.DSym, S: "x", L: []api.Datum{sym("x")}}, {K: api.DSym, S: "x", T: []api.Datum{sym("x")}}, {K: api.DSym, S: "x", L: []api.Datum{round}},
	}
	return l
}

// nowhere are numbers of scopes that a table with so many doesn't have.
func nowhere(scopes int) []int {
	return []int{-1, -2, -1 << 63, scopes, scopes + 1, 1 << 14, 1 << 20, 1<<32 + scopes - 1, 1 << 32, 1<<63 - 1}
}
