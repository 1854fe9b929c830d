package scope_test

import (
	"slices"
	"strings"
	"testing"

	"shuttle/api"
	"shuttle/scope"
)

// P5.1: a new table has scope 0 and no marks.
func TestNew(t *testing.T) {
	w := newTwin(t)
	if s, m := w.table.Sizes(); s != 1 || m != 0 {
		t.Error("Sizes", s, m)
	}
	w.check(sym("x"), sym("if"), sym("..."), sym("+"), sym(strings.Repeat("y", 32)))
	w.mark(0)
	other := newTwin(t)
	other.extend(0, sym("x"), 3)
	other.check(sym("x"), sym("y"))
	w.check(sym("x"), sym("x", 1))
}

// The chapter's example.
func TestExample(t *testing.T) {
	x := scope.New()
	if m, e := x.Mark(0); m != 1 || e != api.OK {
		t.Fatal("Mark", m, int(e))
	}
	if s, e := x.Extend(0, sym("x"), 7); s != 1 || e != api.OK {
		t.Fatal("Extend", s, int(e))
	}
	if s, e := x.Extend(1, sym("x", 1), 8); s != 2 || e != api.OK {
		t.Fatal("Extend", s, int(e))
	}
	for _, w := range []struct {
		in   int
		id   api.Datum
		want api.Seen
	}{
		{2, sym("x"), api.Seen{Scope: 1, What: 7}},
		{2, sym("x", 1), api.Seen{Scope: 2, What: 8}},
		{1, sym("x", 1), api.Seen{Name: "x"}},
	} {
		if s, e := x.Find(w.in, w.id); s != w.want || e != api.OK {
			t.Error("Find", w.in, w.id, s, int(e))
		}
	}
}

// P5.2: what identifiers mean, by hand.
func TestFindByHand(t *testing.T) {
	w := newTwin(t)
	w.extend(0, sym("a"), 10)       // 1
	w.extend(1, sym("b"), -20)      // 2
	w.mark(1)                       // 1
	w.mark(2)                       // 2
	w.extend(2, sym("a"), 30)       // 3
	w.extend(3, sym("a", 1), 40)    // 4
	w.extend(4, sym("a", 1, 2), 50) // 5
	w.extend(0, sym("a"), 60)       // 6: beside all of these
	w.mark(5)                       // 3: of a scope that was created after the first marks
	w.mark(6)                       // 4
	w.extend(5, sym("b", 3, 3), 0)  // 7
	w.extend(7, sym("a"), 1<<63-1)  // 8
	w.extend(8, sym("a"), -1<<63)   // 9: the same one again
	for _, x := range []struct {
		in   int
		id   api.Datum
		want api.Seen
	}{
		{0, sym("a"), api.Seen{Name: "a"}},
		{1, sym("a"), api.Seen{Scope: 1, What: 10}},
		{2, sym("a"), api.Seen{Scope: 1, What: 10}},
		{2, sym("b"), api.Seen{Scope: 2, What: -20}},
		{3, sym("a"), api.Seen{Scope: 3, What: 30}},
		{5, sym("a"), api.Seen{Scope: 3, What: 30}},
		{6, sym("a"), api.Seen{Scope: 6, What: 60}},
		{6, sym("b"), api.Seen{Name: "b"}},
		{8, sym("a"), api.Seen{Scope: 8, What: 1<<63 - 1}},
		{9, sym("a"), api.Seen{Scope: 9, What: -1 << 63}},
		// One mark: the scope itself, else that of the mark.
		{9, sym("a", 1), api.Seen{Scope: 4, What: 40}},
		{3, sym("a", 1), api.Seen{Scope: 1, What: 10}},
		{0, sym("a", 1), api.Seen{Scope: 1, What: 10}},
		{6, sym("b", 1), api.Seen{Name: "b"}},
		{0, sym("b", 2), api.Seen{Scope: 2, What: -20}},
		{9, sym("a", 2), api.Seen{Scope: 1, What: 10}},
		{0, sym("a", 3), api.Seen{Scope: 3, What: 30}},
		{9, sym("a", 4), api.Seen{Scope: 6, What: 60}},
		{9, sym("c", 3), api.Seen{Name: "c"}},
		// Several: the last one goes first.
		{5, sym("a", 1, 2), api.Seen{Scope: 5, What: 50}},
		{4, sym("a", 1, 2), api.Seen{Scope: 1, What: 10}},
		{5, sym("a", 2, 1), api.Seen{Scope: 1, What: 10}},
		{0, sym("a", 1, 3), api.Seen{Scope: 4, What: 40}},
		{0, sym("a", 3, 1), api.Seen{Scope: 3, What: 30}},
		{0, sym("a", 1, 2, 3), api.Seen{Scope: 5, What: 50}},
		{9, sym("a", 4, 3), api.Seen{Scope: 6, What: 60}},
		{6, sym("a", 4, 1, 3, 1), api.Seen{Scope: 6, What: 60}},
		{0, sym("a", 1, 2, 2), api.Seen{Scope: 1, What: 10}},
		{7, sym("b", 3, 3), api.Seen{Scope: 7}},
		{5, sym("b", 3, 3), api.Seen{Scope: 2, What: -20}},
		{7, sym("b", 3), api.Seen{Scope: 2, What: -20}},
		{7, sym("b", 3, 3, 3), api.Seen{Scope: 2, What: -20}},
		{0, sym("c", 1, 2, 3, 4), api.Seen{Name: "c"}},
	} {
		if s := w.see(x.in, x.id); s != x.want {
			t.Errorf("Find(%d, %v) is %v", x.in, x.id, s)
		}
	}
}

// P5.2: texts that begin alike, or look like marks, are different identifiers.
func TestTextsAreExact(t *testing.T) {
	w := newTwin(t)
	long := strings.Repeat("x", 31)
	ids := []api.Datum{sym("x"), sym("X"), sym("x1"), sym("x", 1), sym("x", 1, 1), sym("x", 11), sym("x1", 1), sym("x.1"), sym("xx"), sym("+"), sym("-"), sym("..."), sym(long + "x"), sym(long + "y"), sym(long), sym("x", 12), sym("x", 1, 2), sym("x", 2, 1), sym("x", 2)}
	for range 12 {
		w.mark(0)
	}
	for i, id := range ids {
		w.extend(i, id, int64(i))
	}
	for i, id := range ids {
		if s := w.see(len(ids), id); s != (api.Seen{Scope: i + 1, What: int64(i)}) {
			t.Errorf("%v is %v", id, s)
		}
		if s := w.see(i, id); s.Name == "" && slices.Equal(id.M, nil) {
			t.Errorf("%v is bound ahead of its scope: %v", id, s)
		}
	}
	w.check(ids...)
}

// P5.1, P5.2: every error, and which one comes first; R2: there is nothing beside it, and nothing changes.
func TestErrors(t *testing.T) {
	w := newTwin(t)
	w.extend(0, sym("x"), 1)
	w.mark(1)
	w.mark(0)
	w.extend(1, sym("x", 1), 2)
	w.extend(2, sym("x", 7), 3) // bound already, by a mark that isn't made
	x := w.table
	for _, s := range nowhere(4) {
		for _, id := range append(wrong(), sym("x"), sym("x", 1), sym("x", 3), sym("x", 7)) {
			if n, e := x.Extend(s, id, 5); n != 0 || e != api.ErrScope {
				t.Fatalf("Extend(%d, %v): %d, %d", s, id, n, int(e))
			}
			if n, e := x.Find(s, id); n != (api.Seen{}) || e != api.ErrScope {
				t.Fatalf("Find(%d, %v): %v, %d", s, id, n, int(e))
			}
		}
		if n, e := x.Mark(s); n != 0 || e != api.ErrScope {
			t.Fatalf("Mark(%d): %d, %d", s, n, int(e))
		}
	}
	for s := range 4 {
		for _, id := range wrong() {
			if n, e := x.Extend(s, id, 5); n != 0 || e != api.ErrForm {
				t.Fatalf("Extend(%d, %v): %d, %d", s, id, n, int(e))
			}
			if n, e := x.Find(s, id); n != (api.Seen{}) || e != api.ErrForm {
				t.Fatalf("Find(%d, %v): %v, %d", s, id, n, int(e))
			}
		}
		for _, id := range []api.Datum{sym("x", 3), sym("y", 3), sym("x", 7), sym("x", 1<<20), sym("x", 1, 3), sym("x", 3, 1), sym("x", 1, 3, 2), sym("x", 1, 2, 1, 7), sym("x", append(slices.Repeat([]int{2}, 15), 3)...)} {
			if n, e := x.Find(s, id); n != (api.Seen{}) || e != api.ErrScope {
				t.Fatalf("Find(%d, %v): %v, %d", s, id, n, int(e))
			}
		}
		// A symbol that isn't valid is that first, whatever marks it has.
		for _, id := range []api.Datum{sym("1", 9), sym("x", 9, 0), sym("x", 9, 1<<20+1), sym("x", slices.Repeat([]int{9}, 17)...)} {
			if n, e := x.Find(s, id); n != (api.Seen{}) || e != api.ErrForm {
				t.Fatalf("Find(%d, %v): %v, %d", s, id, n, int(e))
			}
		}
	}
	w.check(sym("x"), sym("x", 1), sym("x", 2), sym("y", 2, 1))
}

// P5.2: Same's errors are Find's, the first one's first.
func TestSameErrors(t *testing.T) {
	w := newTwin(t)
	w.extend(0, sym("x"), 1)
	w.mark(1)
	type asked struct {
		in int
		id api.Datum
		e  api.Errno
	}
	l := []asked{{0, sym("x"), api.OK}, {1, sym("x", 1), api.OK}, {1, sym("y"), api.OK}, {0, sym("x", 2), api.ErrScope}, {1, sym("x", 1, 9), api.ErrScope}, {0, api.Datum{}, api.ErrForm}, {1, sym("1", 2), api.ErrForm}}
	for _, s := range nowhere(2) {
		l = append(l, asked{s, sym("x"), api.ErrScope}, asked{s, api.Datum{}, api.ErrScope})
	}
	for _, id := range wrong() {
		l = append(l, asked{1, id, api.ErrForm})
	}
	for _, a := range l {
		for _, b := range l {
			want := a.e
			if want == api.OK {
				want = b.e
			}
			if is, e := w.table.Same(a.in, a.id, b.in, b.id); e != want || e != api.OK && is {
				t.Fatalf("Same(%d, %v, %d, %v) is %v, %d, not %d", a.in, a.id, b.in, b.id, is, int(e), int(want))
			}
		}
	}
}

// P5.2: Same, by hand: the same scope, or free with the same text; neither the value nor the text of what is bound matters.
func TestSameByHand(t *testing.T) {
	w := newTwin(t)
	w.mark(0)
	w.extend(0, sym("x"), 7)    // 1
	w.extend(1, sym("y"), 7)    // 2
	w.extend(2, sym("x", 1), 7) // 3
	w.extend(0, sym("x"), 7)    // 4
	w.mark(2)
	for _, x := range []struct {
		a    int
		x    api.Datum
		b    int
		y    api.Datum
		want bool
	}{
		{0, sym("x"), 0, sym("x"), true},
		{0, sym("x"), 0, sym("y"), false},
		{0, sym("x"), 2, sym("x", 1), true},
		{0, sym("x"), 4, sym("x"), false},
		{1, sym("x"), 2, sym("x"), true},
		{1, sym("x"), 4, sym("x"), false},
		{2, sym("x"), 2, sym("y"), false},
		{3, sym("x", 1), 3, sym("x"), false},
		{3, sym("x", 1), 2, sym("x", 1), false},
		{3, sym("x"), 0, sym("x", 2), true},
		{0, sym("y", 2), 3, sym("y"), true},
		{0, sym("y", 1), 3, sym("y"), false},
		{0, sym("z", 1), 3, sym("z", 2), true},
		{0, sym("z", 1, 2, 1), 4, sym("z"), true},
		{0, sym("z", 2), 4, sym("y"), false},
		{1, sym("y"), 4, sym("y", 1), true},
	} {
		if is, e := w.table.Same(x.a, x.x, x.b, x.y); is != x.want || e != api.OK {
			t.Errorf("Same(%d, %v, %d, %v) is %v, %d", x.a, x.x, x.b, x.y, is, int(e))
		}
		if is, e := w.table.Same(x.b, x.y, x.a, x.x); is != x.want || e != api.OK {
			t.Errorf("Same(%d, %v, %d, %v) is %v, %d", x.b, x.y, x.a, x.x, is, int(e))
		}
	}
}

// P5.3: Names goes outwards, and ends where the caller ends it; there are none in scope 0, or in one that doesn't exist.
func TestNames(t *testing.T) {
	w := newTwin(t)
	w.mark(0)
	w.extend(0, sym("x"), 1)
	w.extend(1, sym("y", 1, 1), 2)
	w.extend(1, sym("z"), 3)
	w.extend(2, sym("x", 9), 4)
	w.extend(4, sym("x"), 5)
	if l := names(w.table, 5); !alike(l, []named{{5, sym("x")}, {4, sym("x", 9)}, {2, sym("y", 1, 1)}, {1, sym("x")}}) {
		t.Error("of scope 5:", l)
	}
	if l := names(w.table, 3); !alike(l, []named{{3, sym("z")}, {1, sym("x")}}) {
		t.Error("of scope 3:", l)
	}
	w.check()
	for _, s := range append(nowhere(6), 0) {
		if l := names(w.table, s); len(l) != 0 {
			t.Errorf("of scope %d: %v", s, l)
		}
	}
	for most := 1; most <= 4; most++ {
		var l []named
		for s, id := range w.table.Names(5) {
			l = append(l, named{s, id})
			if len(l) == most {
				break
			}
		}
		if !alike(l, w.names(5)[:most]) {
			t.Errorf("the first %d of scope 5: %v", most, l)
		}
	}
}

// P5.3, R5: a table that no function created.
func TestNotMade(t *testing.T) {
	for what, x := range map[string]*scope.Table{"nil": nil, "zero": {}, "new": new(scope.Table)} {
		for _, s := range append(nowhere(1), 0) {
			for _, id := range append(wrong(), sym("x"), sym("x", 1)) {
				if n, e := x.Extend(s, id, 1); n != 0 || e != api.ErrMade {
					t.Fatal(what, "Extend", n, int(e))
				}
				if n, e := x.Find(s, id); n != (api.Seen{}) || e != api.ErrMade {
					t.Fatal(what, "Find", n, int(e))
				}
				if is, e := x.Same(s, id, s, id); is || e != api.ErrMade {
					t.Fatal(what, "Same", is, int(e))
				}
			}
			if n, e := x.Mark(s); n != 0 || e != api.ErrMade {
				t.Fatal(what, "Mark", n, int(e))
			}
			if l := names(x, s); len(l) != 0 {
				t.Fatal(what, "Names", l)
			}
		}
		if s, m := x.Sizes(); s != 0 || m != 0 {
			t.Error(what, "Sizes", s, m)
		}
		if c := x.Clone(); c != nil {
			t.Error(what, "Clone", c)
		}
	}
}
