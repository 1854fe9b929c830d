package read_test

import (
	"slices"
	"strings"
	"testing"

	"shuttle/api"
	"shuttle/datum"
	"shuttle/lex"
	"shuttle/read"
)

// P4.4: what Print writes is read as the datum without marks.
func TestRoundTrip(t *testing.T) {
	some := 0
	for _, d := range append(grown(1, 3000), list(slices.Repeat([]api.Datum{list(sym("quote", 1), sym("a", 2))}, 1365)...), nest(63, sym("a", 1)), nest(63, list())) {
		s, e := read.Print(d)
		if e == api.ErrLong {
			continue
		}
		if e != api.OK {
			t.Fatal(d, int(e))
		}
		if l, _, e := lex.Words(s); e != api.OK || len(l) > 1<<12 {
			continue
		}
		some++
		if x, e := read.One(s); e != api.OK || !even(x, bare(d)) || !datum.Same(x, datum.Plain(d)) {
			t.Fatalf("%v is printed as %q, and read as %v, %d", d, s, x, int(e))
		}
	}
	if some < 2900 {
		t.Error("only so many:", some)
	}
}

// P4.4: whatever text a datum is read from, it is printed as one that is read as the same datum; P4.1: and that is the datum meant.
func TestRoundTripOfTexts(t *testing.T) {
	g := grower{picker(11)}
	for i := range 5000 {
		d := bare(g.datum(i % 6))
		s := g.text(d)
		if len(s) > 1<<14 {
			continue
		}
		x, e := read.One(s)
		if e != api.OK || !even(x, d) {
			t.Fatalf("%q is read as %v, %d, not %v", s, x, int(e), d)
		}
		p, e := read.Print(x)
		if y, f := read.One(p); e != api.OK || f != api.OK || !even(y, x) {
			t.Fatalf("%q is read as %v, and from %q as %v", s, x, p, y)
		}
	}
}

// P4.4: the output of Lines is read as the data.
func TestRoundTripOfLines(t *testing.T) {
	l := grown(21, 600)
	for i := range l {
		part := l[i:min(len(l), i+i%9)]
		s, e := read.Lines(part...)
		forms, _, f := read.Read(s)
		if e != api.OK || f != api.OK || len(forms) != len(part) {
			t.Fatalf("%q: %d data, %d, %d", s, len(forms), int(e), int(f))
		}
		for k, x := range forms {
			if !even(x.D, bare(part[k])) {
				t.Fatalf("%v is read as %v", part[k], x.D)
			}
		}
	}
}

// P4.5: a text, a byte 10 and another text are read as the data of both.
func TestConcatenation(t *testing.T) {
	g := grower{picker(31)}
	texts := []string{"", " ", "; a", "a ; (", "#| ( |#", "1", "'a", "(a . b)", "#()", `#\a`, "...", strings.Repeat("a ", 128)}
	for i := range 60 {
		s := ""
		for range g.pick(4) {
			s += g.text(g.datum(i%5)) + g.blank()
		}
		texts = append(texts, s)
	}
	for _, a := range texts {
		for _, b := range texts {
			first, _, e := read.Read(a)
			second, _, f := read.Read(b)
			if e != api.OK || f != api.OK {
				t.Fatalf("%q, %q: %d, %d", a, b, int(e), int(f))
			}
			want := slices.Clone(first)
			for _, x := range second {
				want = append(want, api.Form{At: len(a) + 1 + x.At, D: x.D})
			}
			check(t, a+"\n"+b, want, 0, api.OK)
		}
	}
}

// P4.6: a datum up to the end of any of its tokens but the last one is ErrOpen, at what is incomplete.
func TestIncomplete(t *testing.T) {
	g := grower{picker(41)}
	some := 0
	for i := range 1500 {
		s := g.text(g.datum(i % 6))
		l, _, _ := lex.Words(s)
		for k, x := range l[:len(l)-1] {
			some++
			_, at, _ := oracle(s[:x.To])
			check(t, s[:x.To], nil, at, api.ErrOpen)
			if !slices.ContainsFunc(l[:k+1], func(x api.Token) bool { return x.At == at && x.K >= api.TkOpen && x.K <= api.TkSplice }) {
				t.Fatalf("%q: no token begins a datum at %d", s[:x.To], at)
			}
		}
	}
	if some < 4000 {
		t.Error("only so many:", some)
	}
}

// scribble writes over all the memory that a datum has, and what its slices could grow into.
func scribble(d api.Datum) {
	for _, l := range [][]api.Datum{d.L[:cap(d.L)], d.T[:cap(d.T)]} {
		for i, x := range l {
			scribble(x)
			l[i] = api.Datum{K: 77}
		}
	}
	for i := range d.M[:cap(d.M)] {
		d.M[:cap(d.M)][i] = 77
	}
}

// shares tells whether two lists in these data reach the same place.
func shares(l []api.Form) bool {
	seen := map[*api.Datum]bool{}
	var look func(d api.Datum) bool
	look = func(d api.Datum) bool {
		for _, l := range [][]api.Datum{d.L[:cap(d.L)], d.T[:cap(d.T)]} {
			for i := range l {
				if seen[&l[i]] {
					return true
				}
				seen[&l[i]] = true
			}
		}
		return slices.ContainsFunc(d.L, look) || slices.ContainsFunc(d.T, look)
	}
	return slices.ContainsFunc(l, func(f api.Form) bool { return look(f.D) })
}

// R3, R4: the same calls have the same answers, each in memory of its own, and no two lists of an answer share any.
func TestOwnMemory(t *testing.T) {
	g := grower{picker(51)}
	texts := []string{"(a . (b . (c . d)))", "(a b c . (d e))", "(a . #(b))", "(a . 'b)", "'(a . (b . #(c)))", "#((a . (b c)) (a . (b . c)))", "'a 'a", within("(a . ", 20, "b", ")")}
	for i := range 300 {
		texts = append(texts, g.text(g.datum(i%6))+" "+g.text(g.datum(i%4)))
	}
	for _, s := range texts {
		want, at, e := oracle(s)
		l, _, _ := read.Read(s)
		if shares(l) {
			t.Fatalf("%q: data share memory", s)
		}
		for _, x := range l {
			scribble(x.D)
		}
		clear(l[:cap(l)])
		forms := read.Forms(s)
		for range 2 {
			i := 0
			for at, d := range forms {
				if !alike(api.Form{At: at, D: d}, want[i]) {
					t.Fatalf("%q: %v at %d", s, d, at)
				}
				scribble(d)
				i++
			}
			if i != len(want) {
				t.Fatalf("%q: %d data", s, i)
			}
		}
		d, _ := read.One(s)
		scribble(d)
		check(t, s, want, at, e)
	}
}

// R3, R4: what prints changes nothing, and prints the same again.
func TestPrintChangesNothing(t *testing.T) {
	given, kept := grown(61, 200), grown(61, 200)
	for i, d := range given {
		s, e := read.Print(d)
		if r, f := read.Print(d); r != s || f != e || !even(d, kept[i]) {
			t.Fatalf("Print changed %v to %v", kept[i], d)
		}
	}
	s, e := read.Lines(given...)
	if r, f := read.Lines(given...); r != s || f != e || !slices.EqualFunc(given, kept, even) {
		t.Fatal("Lines changed its arguments")
	}
}
