package code_test

import (
	"slices"
	"testing"

	"shuttle/api"
	"shuttle/code"
)

// scribble writes over all the memory that a program has, and what its slices could grow into.
func scribble(p api.Prog) {
	codes := p.Codes[:cap(p.Codes)]
	for i := range codes {
		l := codes[i].Ins[:cap(codes[i].Ins)]
		for j := range l {
			l[j] = api.Ins{Op: 77, A: 77, B: 77}
		}
		codes[i] = api.Code{Params: 77}
	}
	for i := range p.Names[:cap(p.Names)] {
		p.Names[:cap(p.Names)][i] = "77"
	}
	scribbleData(p.Consts)
}

func scribbleData(l []api.Datum) {
	l = l[:cap(l)]
	for i := range l {
		for j := range l[i].M[:cap(l[i].M)] {
			l[i].M[:cap(l[i].M)][j] = 77
		}
		scribbleData(l[i].L)
		scribbleData(l[i].T)
		l[i] = api.Datum{K: 77}
	}
}

// places are where all elements of a program's slices are; twice tells whether two are at one place.
type places struct {
	at    map[any]bool
	twice bool
}

func (s *places) add(place any) {
	s.twice = s.twice || s.at[place]
	s.at[place] = true
}

func (s *places) data(l []api.Datum) {
	for i := range l {
		s.add(&l[i])
		for j := range l[i].M {
			s.add(&l[i].M[j])
		}
		s.data(l[i].L)
		s.data(l[i].T)
	}
}

// apart tells whether no two slices of all these share memory.
func apart(l ...api.Prog) bool {
	s := &places{at: map[any]bool{}}
	for _, p := range l {
		for i := range p.Codes {
			s.add(&p.Codes[i])
			for j := range p.Codes[i].Ins {
				s.add(&p.Codes[i].Ins[j])
			}
		}
		for i := range p.Names {
			s.add(&p.Names[i])
		}
		s.data(p.Consts)
	}
	return !s.twice
}

// wrong is an invalid program with all sorts of data, made anew.
func wrong() api.Prog {
	p := sample()
	p.Consts = append(p.Consts, api.Datum{K: 99, M: []int{0, -1}, L: []api.Datum{{}, list(num(1))}, T: []api.Datum{sym("a", 1, 2), vec(num(3))}}, list(sym("x", 1<<30)), nest(70, vec(num(1))))
	p.Codes[1].Ins[3].Op = -5
	p.Names[1] = ""
	return p
}

// P9.2, R3: what the calls answer shares no memory with what they are given, nor with each other.
func TestMemory(t *testing.T) {
	for _, make := range []func() api.Prog{sample, wrong} {
		p := make()
		c, d := code.Clone(p), code.Clone(p)
		if !apart(p, c, d) || !equal(p, c) || !equal(p, d) {
			t.Error("memory is shared")
		}
		scribble(c)
		if !equal(p, make()) || !equal(d, make()) {
			t.Error("a program has changed")
		}
		scribble(p)
		if !equal(d, make()) {
			t.Error("a clone has changed")
		}
	}
	// Also what an argument has twice.
	inner := []api.Datum{num(1), sym("a", 1)}
	ins := asm("const 0, return")
	p := api.Prog{Consts: []api.Datum{list(inner...), vec(inner...), dot(list(inner...), inner...)}, Codes: []api.Code{{Max: 1, Ins: ins}, {Max: 1, Ins: ins}}}
	if c := code.Clone(p); !apart(c) || !equal(c, p) {
		t.Error("memory is shared within a clone")
	}
}

// R3: the same for Depths, Bytes and Parse.
func TestAnswersMemory(t *testing.T) {
	p := sample()
	b, _ := code.Bytes(p)
	kept := slices.Clone(b)
	q, e := code.Parse(b)
	if e != api.OK || !apart(p, q) {
		t.Error("memory is shared", int(e))
	}
	for i := range b[:cap(b)] {
		b[:cap(b)][i] = 77
	}
	if !equal(p, sample()) || !equal(q, sample()) {
		t.Error("a program has changed with its bytes")
	}
	r, e := code.Parse(kept)
	scribble(q)
	if c, f := code.Bytes(p); e != api.OK || f != api.OK || !slices.Equal(c, kept) || !equal(r, sample()) {
		t.Error("another answer", int(e), int(f))
	}
	l, _ := code.Depths(p, 0)
	same := slices.Clone(l)
	for i := range l[:cap(l)] {
		l[:cap(l)][i] = 77
	}
	if m, _ := code.Depths(p, 0); !slices.Equal(m, same) || !equal(p, sample()) {
		t.Error("Depths after its answer was changed:", m)
	}
}

// R3: Lines keeps nothing of the program.
func TestLinesKeepNothing(t *testing.T) {
	p := sample()
	seq := code.Lines(p, 0)
	scribble(p)
	for range 2 {
		if got := slices.Collect(seq); !slices.Equal(got, lines(sample().Codes[0])) {
			t.Errorf("Lines: %q", got)
		}
	}
}

// R4: the same calls have the same answers.
func TestAgain(t *testing.T) {
	p := sample()
	p.Consts, p.Names = append(p.Consts, numbers(4)...), append(p.Names, symbols(50)...)
	for range 50 {
		if !holds(t, p) {
			t.Fatal("another answer")
		}
	}
}

// R6: a nil slice and an empty one are the same.
func TestNilOrEmpty(t *testing.T) {
	g := newPicker(6)
	for i := range 300 {
		p := grown(g, i%4)
		if i%2 == 0 {
			p = hurt(g, p)
		}
		if i%5 == 0 {
			p.Consts = nil
		}
		o := copied(p)
		if len(o.Consts) == 0 {
			o.Consts = []api.Datum{}
		}
		if len(o.Names) == 0 {
			o.Names = []string{}
		}
		if len(o.Codes) == 0 {
			o.Codes = []api.Code{}
		}
		for i := range o.Codes {
			if len(o.Codes[i].Ins) == 0 {
				o.Codes[i].Ins = []api.Ins{}
			}
		}
		fill(o.Consts)
		a, e := code.Bytes(p)
		b, f := code.Bytes(o)
		if code.Check(p) != code.Check(o) || e != f || !slices.Equal(a, b) || code.Same(p, o) != code.Same(p, p) || code.Same(o, p) != code.Same(p, p) {
			t.Fatalf("%s: another answer with empty slices", brief(p))
		}
		holds(t, o)
	}
}

// fill gives data empty slices for those that they haven't.
func fill(l []api.Datum) {
	for i := range l {
		if d := &l[i]; len(d.M) == 0 {
			d.M = []int{}
		}
		if d := &l[i]; len(d.L) == 0 {
			d.L = []api.Datum{}
		}
		if d := &l[i]; len(d.T) == 0 {
			d.T = []api.Datum{}
		}
		fill(l[i].L)
		fill(l[i].T)
	}
}
