package core_test

import (
	"slices"
	"testing"

	"shuttle/api"
	"shuttle/core"
)

// scribble writes over all the memory that expressions have, and what their slices could grow into.
func scribble(l ...api.Core) {
	for _, c := range l {
		scribbleData(c.D)
		for i := range c.P[:cap(c.P)] {
			c.P[:cap(c.P)][i] = 77
		}
		inner := c.L[:cap(c.L)]
		scribble(inner...)
		for i := range inner {
			inner[i] = api.Core{K: 77}
		}
	}
}

func scribbleData(l ...api.Datum) {
	for _, x := range l {
		for i := range x.M[:cap(x.M)] {
			x.M[:cap(x.M)][i] = 77
		}
		for _, inner := range [][]api.Datum{x.L[:cap(x.L)], x.T[:cap(x.T)]} {
			scribbleData(inner...)
			for i := range inner {
				inner[i] = api.Datum{K: 77}
			}
		}
	}
}

func scribbleNumbers(l []int) {
	for i := range l[:cap(l)] {
		l[:cap(l)][i] = 77
	}
}

// memory are the places of all elements of slices in what is given.
type memory struct {
	places map[any]bool
	twice  bool
}

func (m *memory) add(place any) {
	m.twice = m.twice || m.places[place]
	m.places[place] = true
}

func (m *memory) datum(x api.Datum) {
	for i := range x.M {
		m.add(&x.M[i])
	}
	for _, inner := range [][]api.Datum{x.L, x.T} {
		for i := range inner {
			m.add(&inner[i])
			m.datum(inner[i])
		}
	}
}

func (m *memory) core(c api.Core) {
	m.datum(c.D)
	for i := range c.P {
		m.add(&c.P[i])
	}
	for i := range c.L {
		m.add(&c.L[i])
		m.core(c.L[i])
	}
}

// apart tells whether no two slices of all these share memory.
func apart(data []api.Datum, l ...api.Core) bool {
	m := &memory{places: map[any]bool{}}
	for _, x := range data {
		m.datum(x)
	}
	for _, c := range l {
		m.core(c)
	}
	return !m.twice
}

const sample = "(seq (lambda (1 2) (seq (set 1 (local 2)) (call (global f) (const (a #(b \"c\") . 5)) (local 7)))) (set 8 (lambda* (3) (const 0))))"

// whole is an open expression of all sorts, made anew.
func whole() api.Core {
	c := e(sample)
	c.L[1].L[0].L[0] = api.Core{K: api.CoAssign, S: "g", L: []api.Core{constant(d("((x) y)"))}}
	return c
}

// R3: what the calls answer shares no memory with what they are given, nor with each other, and they change nothing of that.
func TestMemory(t *testing.T) {
	c := whole()
	nodes := slices.Collect(core.All(c))
	x, f := core.Datum(c)
	if len(nodes) != 13 || f != api.OK {
		t.Fatal("the sample isn't open:", len(nodes), f)
	}
	back, f := core.Of(x)
	if f != api.OK || !apart([]api.Datum{x}, append(nodes, c, back)...) {
		t.Error("memory is shared", f)
	}
	free, sets, names := core.Free(c), core.Set(c), core.Globals(c)
	if !slices.Equal(free, []int{7, 8}) || !slices.Equal(sets, []int{1, 8}) || !slices.Equal(names, []string{"f", "g"}) || !equal(back, c) {
		t.Error("wrong answers:", free, sets, names)
	}
	scribble(nodes...)
	scribbleData(x)
	scribble(back)
	scribbleNumbers(free)
	scribbleNumbers(sets)
	for i := range names[:cap(names)] {
		names[:cap(names)][i] = "77"
	}
	if !equal(c, whole()) {
		t.Error("the argument has changed")
	}
	holds(t, c)
}

// R3: All keeps nothing of the expression, and its nodes may be changed while they are yielded.
func TestAllKeepsNothing(t *testing.T) {
	c := whole()
	seq := core.All(c)
	scribble(c)
	for range 2 {
		i, want := 0, tell(whole()).nodes
		for node := range seq {
			if i >= len(want) || !equal(node, want[i]) {
				t.Fatalf("All: node %d is another one", i)
			}
			scribble(node)
			i++
		}
		if i != len(want) {
			t.Fatalf("All: %d nodes", i)
		}
	}
}

// R3: neither the expressions nor within are changed by any call, even where slices have room behind them.
func TestArgumentsStay(t *testing.T) {
	p := newPicker(5)
	for i := range 400 {
		c := grown(p, 1+i%5)
		if i%2 == 0 {
			c = hurt(p, c)
		}
		kept, within := copied(c), []int{3, 1, 2, 77}
		core.Check(c, within[:3]...)
		core.Same(c, kept)
		core.Alike(c, kept)
		core.Alike(lambda(c, 1, 2, 3), lambda(kept, 1, 2, 3))
		core.Free(c)
		core.Set(c)
		core.Globals(c)
		for range core.All(c) {
		}
		core.Datum(c)
		if !equal(c, kept) || !slices.Equal(within, []int{3, 1, 2, 77}) {
			t.Fatal("an argument has changed")
		}
		x := listOf(c)
		same := copiedDatum(x)
		core.Of(x)
		if !equalDatum(x, same) {
			t.Fatal("an argument of Of has changed")
		}
	}
}

// R4: the same calls have the same answers.
func TestAgain(t *testing.T) {
	c := seq(set(9, local(4)), set(3, local(11)), global("z"), global("b"), global("a"), lambda(set(30, local(20)), 20, 30, 10), set(5, local(6)))
	for range 50 {
		if !slices.Equal(core.Free(c), []int{3, 4, 5, 6, 9, 11}) || !slices.Equal(core.Set(c), []int{3, 5, 9, 30}) || !slices.Equal(core.Globals(c), []string{"a", "b", "z"}) {
			t.Fatal("another answer")
		}
		holds(t, c)
	}
}

// R6: a nil slice and an empty one are the same.
func TestNilOrEmpty(t *testing.T) {
	empty := func(c api.Core) api.Core {
		c = copied(c)
		for _, x := range places(&c) {
			if len(x.P) == 0 {
				x.P = []int{}
			}
			if len(x.L) == 0 {
				x.L = []api.Core{}
			}
			if len(x.D.M) == 0 {
				x.D.M = []int{}
			}
			if len(x.D.L) == 0 {
				x.D.L = []api.Datum{}
			}
			if len(x.D.T) == 0 {
				x.D.T = []api.Datum{}
			}
		}
		return c
	}
	p := newPicker(6)
	for i := range 400 {
		c := grown(p, 1+i%4)
		if i%2 == 0 {
			c = hurt(p, c)
		}
		o := empty(c)
		a, e := core.Datum(c)
		b, f := core.Datum(o)
		if core.Check(c, 1, 2, 3) != core.Check(o, 1, 2, 3) || e != f || !equalDatum(a, b) || core.Same(c, o) != core.Same(c, c) || core.Alike(lambda(c, 1, 2, 3), lambda(o, 1, 2, 3)) != core.Alike(lambda(c, 1, 2, 3), lambda(c, 1, 2, 3)) {
			t.Fatalf("%s: another answer with empty slices", brief(c))
		}
		holds(t, o, []int{1, 2, 3}, []int{})
	}
}
