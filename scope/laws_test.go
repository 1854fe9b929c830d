package scope_test

import (
	"slices"
	"testing"

	"shuttle/api"
	"shuttle/scope"
)

// few are identifiers of which two marks are made at most.
func few() []api.Datum {
	return []api.Datum{sym("x"), sym("x", 1), sym("x", 2), sym("x", 1, 2), sym("x", 2, 1), sym("x", 1, 1), sym("y", 1), sym("x", 1, 2, 1)}
}

// P5.1, P5.2, P5.3: all tables that few calls make.
func TestAllSmallTables(t *testing.T) {
	tables := 0
	var more func(w *twin, calls int)
	more = func(w *twin, calls int) {
		tables++
		w.check(w.known(few())...)
		if calls == 0 {
			return
		}
		for of := range w.scopes {
			if len(w.marks) < 3 {
				c := w.clone()
				c.mark(of)
				more(c, calls-1)
			}
			for i, id := range few()[:6] {
				c := w.clone()
				c.extend(of, id, int64(i))
				more(c, calls-1)
			}
		}
	}
	more(newTwin(t), 4)
	if tables < 40000 {
		t.Error("only so many:", tables)
	}
}

// P5.1, P5.2, P5.3: mixed tables of all sizes, with identifiers of up to 16 marks.
func TestMixedTables(t *testing.T) {
	bound, free, marked := 0, 0, 0
	for seed := range 150 {
		p := picker(seed*7919 + 1)
		w := newTwin(t)
		ids := w.grow(&p, 1+seed)
		w.check()
		for s := range w.scopes {
			for _, id := range ids {
				switch seen := w.see(s, id); {
				case seen.Scope == 0:
					free++
				case len(id.M) > len(w.scopes[seen.Scope].id.M):
					marked++
				default:
					bound++
				}
			}
		}
	}
	if bound < 10000 || free < 10000 || marked < 10000 {
		t.Error("only so many are bound, free, and bound by a mark:", bound, free, marked)
	}
}

// P5.4: a new scope binds exactly its identifier; every other one means in it what it means in the parent.
func TestExactlyThatIdentifier(t *testing.T) {
	for seed := range 60 {
		p := picker(seed*104729 + 3)
		w := newTwin(t)
		ids := w.grow(&p, 5+seed)
		for range 10 {
			parent, id, what := p.pick(len(w.scopes)), ids[p.pick(len(ids))], int64(p.pick(5))
			was := make([]api.Seen, len(ids))
			for i, other := range ids {
				was[i], _ = w.table.Find(parent, other)
			}
			s, _ := w.table.Extend(parent, id, what)
			w.scopes = append(w.scopes, entry{parent, id, what})
			for i, other := range ids {
				want := was[i]
				if equal(id, other) {
					want = api.Seen{Scope: s, What: what}
				}
				if seen, e := w.table.Find(s, other); seen != want || e != api.OK {
					t.Fatalf("scope %d binds %v: there %v is %v, %d, not %v", s, id, other, seen, int(e), want)
				}
			}
		}
	}
}

// P5.5: with a new mark of a scope, an identifier means what it means there without it, but where exactly that is bound.
func TestMarksLead(t *testing.T) {
	for seed := range 60 {
		p := picker(seed*1299709 + 5)
		w := newTwin(t)
		ids := w.grow(&p, 5+seed)
		for range 5 {
			of := p.pick(len(w.scopes))
			m := w.mark(of)
			id := ids[p.pick(len(ids))]
			if len(id.M) == 16 {
				continue
			}
			with := sym(id.S, append(slices.Clone(id.M), m)...)
			want, _ := w.table.Find(of, id)
			for round := range 3 {
				for s := range w.scopes {
					there := want
					for k, x := range w.table.Names(s) {
						if equal(x, with) {
							there = api.Seen{Scope: k, What: w.scopes[k].what}
							break
						}
					}
					if seen, e := w.table.Find(s, with); seen != there || e != api.OK {
						t.Fatalf("in %d, %v with mark %d of %d is %v, %d, not %v", s, id, m, of, seen, int(e), there)
					}
				}
				w.extend(p.pick(len(w.scopes)), with, int64(round))
			}
		}
	}
}

// P5.6: Same is an equivalence relation, and holds just where the same scope binds, or nothing and the texts agree.
func TestEquivalence(t *testing.T) {
	for seed := range 12 {
		p := picker(seed*15485863 + 7)
		w := newTwin(t)
		ids := w.grow(&p, 4+seed)
		type at struct {
			in int
			id api.Datum
		}
		var all []at
		for range 60 {
			all = append(all, at{p.pick(len(w.scopes)), ids[p.pick(len(ids))]})
		}
		is := make([][]bool, len(all))
		for i, a := range all {
			is[i] = make([]bool, len(all))
			for k, b := range all {
				same, e := w.table.Same(a.in, a.id, b.in, b.id)
				one, other := w.find(a.in, a.id), w.find(b.in, b.id)
				if want := one.Scope == other.Scope && one.Name == other.Name; same != want || e != api.OK {
					t.Fatalf("Same(%v, %v) is %v, %d", a, b, same, int(e))
				}
				is[i][k] = same
			}
		}
		for i := range all {
			if !is[i][i] {
				t.Fatal(all[i], "isn't the same as itself")
			}
			for k := range all {
				if is[i][k] && !slices.Equal(is[i], is[k]) || is[i][k] != is[k][i] {
					t.Fatal(all[i], all[k])
				}
			}
		}
	}
}

// P5.6: what an identifier means in a scope stays, whatever is made later.
func TestMeaningsStay(t *testing.T) {
	for seed := range 30 {
		p := picker(seed*32452843 + 9)
		w := newTwin(t)
		ids := w.grow(&p, 3+seed)
		scopes := len(w.scopes)
		var was []api.Seen
		var around [][]named
		for s := range scopes {
			around = append(around, names(w.table, s))
			for _, id := range ids {
				was = append(was, w.see(s, id))
			}
		}
		w.grow(&p, 60)
		for _, id := range ids {
			w.extend(p.pick(len(w.scopes)), id, 77)
			w.mark(p.pick(len(w.scopes)))
		}
		for s := range scopes {
			if !alike(around[s], names(w.table, s)) {
				t.Fatal("Names of", s, "changed")
			}
			for _, id := range ids {
				if seen, e := w.table.Find(s, id); seen != was[0] || e != api.OK {
					t.Fatalf("Find(%d, %v) was %v, is %v, %d", s, id, was[0], seen, int(e))
				}
				was = was[1:]
			}
		}
	}
}

// P5.3: a clone is equal, and neither changes with the other.
func TestClone(t *testing.T) {
	for seed := range 30 {
		p := picker(seed*49979687 + 11)
		w := newTwin(t)
		w.grow(&p, seed)
		kept := w.clone()
		c := w.clone()
		if c.table == w.table {
			t.Fatal("Clone is the table itself")
		}
		ids := w.known([]api.Datum{sym("x"), sym("y"), sym("x", 1), sym("y", 2, 1)})
		// Both bind the same identifiers in scopes of the same number, each in another way.
		for k := range 20 {
			id := sym([]string{"x", "y", "z"}[k%3])
			w.extend(p.pick(len(w.scopes)), id, 100)
			c.extend(p.pick(len(c.scopes)), sym("z", 1), 200)
			c.extend(p.pick(len(c.scopes)), id, 300)
			w.mark(p.pick(len(w.scopes)))
			c.mark(p.pick(len(c.scopes)))
		}
		more := append(slices.Clone(ids), sym("z"), sym("z", 1), sym("x", 1, 2, 3))
		for m := 1; m < len(c.marks); m++ {
			more = append(more, sym("x", m), sym("z", 1, m))
		}
		w.check(more...)
		c.check(more...)
		kept.check(ids...)
		d := c.clone()
		d.check(more...)
	}
}

// R3: arguments are neither kept nor changed; what Names yields is the caller's.
func TestOwnMemory(t *testing.T) {
	w := newTwin(t)
	w.mark(0)
	w.mark(0)
	m := make([]int, 2, 16)
	m[0], m[1] = 1, 2
	w.extend(0, sym("x", 1, 2), 5)
	s, _ := w.table.Extend(1, sym("y", m...), 6)
	w.scopes = append(w.scopes, entry{1, sym("y", 1, 2), 6})
	w.table.Find(s, sym("y", m...))
	w.table.Same(s, sym("y", m...), s, sym("y", m[:1]...))
	if !slices.Equal(m[:cap(m)], append([]int{1, 2}, make([]int, 14)...)) {
		t.Error("the argument was changed:", m[:cap(m)])
	}
	m[0], m[1] = 2, 2
	w.check(sym("y", 1, 2), sym("y", 2, 2), sym("x", 1, 2), sym("y", 1))
	for range 3 {
		for _, id := range w.table.Names(2) {
			for i := range id.M[:cap(id.M)] {
				id.M[:cap(id.M)][i] = 9
			}
		}
	}
	all := w.table.Names(2)
	for range 2 {
		var l []named
		for s, id := range all {
			l = append(l, named{s, id})
		}
		if !alike(l, w.names(2)) {
			t.Error("Names", l)
		}
		clear(l[0].id.M)
		if !slices.Equal(l[1].id.M, []int{1, 2}) {
			t.Error("two of Names share memory")
		}
	}
	w.check(sym("y", 1, 2), sym("y", 2, 2), sym("x", 1, 2), sym("y", 1))
}

// P5.3: Names is of the table as it is when it is called, whatever becomes of that, even while it is gone through.
func TestNamesWhileTheTableGrows(t *testing.T) {
	w := newTwin(t)
	w.extend(0, sym("x"), 1)
	w.extend(1, sym("y"), 2)
	before, none := w.table.Names(2), w.table.Names(3)
	want := w.names(2)
	for round := range 3 {
		var l []named
		for s, id := range before {
			l = append(l, named{s, id})
			for range 10 {
				w.extend(round*len(w.scopes)/3, sym("z"), 3)
				w.mark(0)
			}
		}
		if !alike(l, want) {
			t.Error("Names", l)
		}
		for s, id := range none {
			t.Error("of a scope that didn't exist:", s, id)
		}
	}
	*w.table = scope.Table{}
	for s := range before {
		if s != 2 && s != 1 {
			t.Error("Names", s)
		}
	}
}

// R4: the same calls have the same answers.
func TestAgain(t *testing.T) {
	for seed := range 20 {
		one, other := newTwin(t), newTwin(t)
		p, q := picker(seed+1), picker(seed+1)
		ids := one.grow(&p, 40)
		other.grow(&q, 40)
		for s := range one.scopes {
			for _, id := range ids {
				if a, b := one.see(s, id), other.see(s, id); a != b || a != one.see(s, id) {
					t.Fatal(s, id, a, b)
				}
			}
		}
	}
}
