package scope_test

import (
	"slices"
	"strconv"
	"testing"

	"shuttle/api"
	"shuttle/scope"
)

const most = 1 << 14

// full is a table with as many scopes as may be, one within the other, which bind x0 to x9 in turn.
func full(t *testing.T) *twin {
	w := newTwin(t)
	for s := 1; s < most; s++ {
		w.extend(s-1, sym("x"+strconv.Itoa(s%10)), int64(s))
	}
	return w
}

// P5.1: as many scopes as may be, and one more.
func TestManyScopes(t *testing.T) {
	w := full(t)
	w.mark(most - 1)
	x := w.table
	for _, s := range []int{0, 1, most - 1} {
		if n, e := x.Extend(s, sym("x"), 1); n != 0 || e != api.ErrFull {
			t.Errorf("Extend(%d) of a full table: %d, %d", s, n, int(e))
		}
		for _, id := range wrong() {
			if n, e := x.Extend(s, id, 1); n != 0 || e != api.ErrForm {
				t.Errorf("Extend(%d, %v) of a full table: %d, %d", s, id, n, int(e))
			}
		}
	}
	for _, s := range nowhere(most) {
		if n, e := x.Extend(s, sym("x"), 1); n != 0 || e != api.ErrScope {
			t.Errorf("Extend(%d) of a full table: %d, %d", s, n, int(e))
		}
	}
	if s, m := x.Sizes(); s != most || m != 1 {
		t.Error("Sizes", s, m)
	}
	for _, s := range []int{0, 1, 9, 10, 11, 5000, most - 2, most - 1} {
		for k := range 11 {
			w.see(s, sym("x"+strconv.Itoa(k)))
			w.see(s, sym("x"+strconv.Itoa(k), 1))
		}
	}
	if l := names(x, most-1); !alike(l, w.names(most-1)) || len(l) != most-1 {
		t.Error("Names", len(l))
	}
	w.mark(3) // marks aren't scopes
}

// P5.1: scopes may all have the same parent, and bind the same identifier.
func TestManySiblings(t *testing.T) {
	w := newTwin(t)
	for s := 1; s < most; s++ {
		w.extend(0, sym("x"), int64(-s))
	}
	if n, e := w.table.Extend(0, sym("x"), 0); n != 0 || e != api.ErrFull {
		t.Error("one too many:", n, int(e))
	}
	for s := 1; s < most; s += 7 {
		if seen := w.see(s, sym("x")); seen != (api.Seen{Scope: s, What: int64(-s)}) {
			t.Fatal(s, seen)
		}
	}
}

// P5.1, P5.2: as many marks as may be, and one more.
func TestManyMarks(t *testing.T) {
	w := newTwin(t)
	w.extend(0, sym("x"), 7)
	for m := 1; m <= most; m++ {
		w.mark(m % 2)
	}
	x := w.table
	for _, s := range []int{0, 1} {
		if n, e := x.Mark(s); n != 0 || e != api.ErrFull {
			t.Errorf("Mark(%d) of a full table: %d, %d", s, n, int(e))
		}
	}
	for _, s := range nowhere(2) {
		if n, e := x.Mark(s); n != 0 || e != api.ErrScope {
			t.Errorf("Mark(%d) of a full table: %d, %d", s, n, int(e))
		}
	}
	if s, m := x.Sizes(); s != 2 || m != most {
		t.Error("Sizes", s, m)
	}
	for _, m := range []int{1, 2, 255, 256, most - 1, most} {
		for _, s := range []int{0, 1} {
			w.see(s, sym("x", m))
			w.see(s, sym("x", m, most, m, most-1))
		}
	}
	for _, m := range []int{most + 1, most + 2, 1 << 15, 1 << 16, 1 << 20} {
		if n, e := x.Find(1, sym("x", m)); n != (api.Seen{}) || e != api.ErrScope {
			t.Errorf("Find with mark %d: %v, %d", m, n, int(e))
		}
	}
	// Scopes aren't marks, and marks that don't exist may be bound.
	w.extend(1, sym("x", most), 8)
	w.extend(2, sym("x", 1<<20), 9)
	if n, e := x.Find(3, sym("x", 1<<20)); n != (api.Seen{}) || e != api.ErrScope {
		t.Errorf("Find with the greatest mark: %v, %d", n, int(e))
	}
	w.check(sym("x"), sym("x", most), sym("x", most-1), sym("x", 1, most))
}

// P5.2: as many marks of an identifier as may be, each of which leads on.
func TestMarksOfOne(t *testing.T) {
	w := newTwin(t)
	ids := []api.Datum{sym("x")}
	for m := 1; m <= 16; m++ {
		w.extend(len(w.scopes)-1, ids[m-1], int64(m)) // scope m binds x with the marks 1 to m-1
		w.mark(m)
		ids = append(ids, sym("x", append(slices.Clone(ids[m-1].M), m)...))
	}
	for m, id := range ids {
		want := api.Seen{Name: "x"}
		if m > 0 {
			want = api.Seen{Scope: m, What: int64(m)}
		}
		if s := w.see(0, id); s != want {
			t.Error(id, s)
		}
	}
	last := w.extend(16, ids[16], 99)
	if s := w.see(last, ids[16]); s != (api.Seen{Scope: last, What: 99}) {
		t.Error(ids[16], s)
	}
	for k := range 16 {
		other := sym("x", slices.Clone(ids[16].M)...)
		other.M[k] = 1 + k%3
		ids = append(ids, other)
	}
	w.check(ids...)
	tooMany := sym("x", append(slices.Clone(ids[16].M), 1)...)
	if s, e := w.table.Find(last, tooMany); s != (api.Seen{}) || e != api.ErrForm {
		t.Error("Find with 17 marks:", s, int(e))
	}
	if n, e := w.table.Extend(last, tooMany, 1); n != 0 || e != api.ErrForm {
		t.Error("Extend with 17 marks:", n, int(e))
	}
	w.check(ids...)
}

// Bound: every mark leads to the innermost of as many scopes as may be, and what is looked for is bound outermost, or nowhere but beside them.
func TestLongSearch(t *testing.T) {
	w := newTwin(t)
	marks := slices.Repeat([]int{1}, 16)
	beside := sym("z", marks...)
	for n := range 17 {
		w.extend(0, sym("z", beside.M[:n]...), 1)
	}
	w.extend(0, sym("y"), 2)
	for s := len(w.scopes); s < most; s++ {
		w.extend(s-1, sym("x"), 3)
	}
	w.mark(most - 1)
	for range 20 {
		w.see(most-1, sym("y", marks...))
		w.see(most-1, beside)
		w.see(most-1, sym("x", marks...))
		w.see(most-1, sym("w", marks...))
	}
}

// P5.3: a clone is as full as what it was made of.
func TestCloneOfFull(t *testing.T) {
	w := full(t)
	for range most {
		w.mark(5)
	}
	c := w.table.Clone()
	if n, e := c.Extend(0, sym("x"), 1); n != 0 || e != api.ErrFull {
		t.Error("Extend", n, int(e))
	}
	if n, e := c.Mark(0); n != 0 || e != api.ErrFull {
		t.Error("Mark", n, int(e))
	}
	if s, m := c.Sizes(); s != most || m != most {
		t.Error("Sizes", s, m)
	}
	if s, e := c.Find(most-1, sym("x5", most)); s != (api.Seen{Scope: 5, What: 5}) || e != api.OK {
		t.Error("Find", s, int(e))
	}
	if is, e := c.Same(most-1, sym("x5", most), 5, sym("x5")); !is || e != api.OK {
		t.Error("Same", is, int(e))
	}
}

// P1: whatever numbers come in, calls answer.
func TestExtremes(t *testing.T) {
	for _, x := range []*scope.Table{scope.New(), {}, nil} {
		for _, s := range nowhere(1) {
			for _, m := range nowhere(1) {
				x.Extend(s, sym("x", m), int64(m))
				x.Find(s, sym("x", m))
				x.Find(0, sym("x", m, m))
				x.Same(0, sym("x"), s, sym("x", m))
				x.Mark(s)
				names(x, s)
			}
		}
		if s, m := x.Sizes(); s > 1 || m > 0 {
			t.Error("Sizes", s, m)
		}
	}
}
