package read_test

import (
	"fmt"
	"strings"
	"testing"

	"shuttle/api"
	"shuttle/datum"
	"shuttle/read"
)

// P4.3: the text of data of every kind.
func TestPrint(t *testing.T) {
	a, b, c := sym("a"), sym("b"), sym("c")
	quote, quasi, comma, splice := sym("quote"), sym("quasiquote"), sym("unquote"), sym("unquote-splicing")
	for _, x := range []struct {
		d    api.Datum
		want string
	}{
		{num(0), "0"}, {num(-12), "-12"}, {num(1<<60 - 1), "1152921504606846975"}, {num(-1 << 60), "-1152921504606846976"}, {truth(0), "#f"}, {truth(1), "#t"},
		{char('a'), `#\a`}, {char(0), `#\nul`}, {char(9), `#\tab`}, {char(10), `#\newline`}, {char(32), `#\space`}, {char(13), `#\x0d`}, {char(127), `#\x7f`}, {char('('), `#\(`},
		{str(""), `""`}, {str("a b"), `"a b"`}, {str("\n\t\\\"\r\x00\x7f"), `"\n\t\\\"\x0d\x00\x7f"`},
		{a, "a"}, {sym("..."), "..."}, {sym("set-car!"), "set-car!"}, {sym("a", 1, 2), "a"}, {sym("a", 1<<20), "a"}, {quote, "quote"},
		{list(), "()"}, {list(a), "(a)"}, {list(a, b), "(a b)"}, {list(a, list(b, list()), c), "(a (b ()) c)"}, {list(list(list())), "((()))"}, {list(str("a"), char(')'), num(1)), `("a" #\) 1)`},
		{vec(), "#()"}, {vec(a), "#(a)"}, {vec(a, vec(b), list(c)), "#(a #(b) (c))"}, {list(vec()), "(#())"},
		{dot(b, a), "(a . b)"}, {dot(c, a, b), "(a b . c)"}, {dot(vec(), a), "(a . #())"}, {dot(num(1), list(a), dot(c, b)), "((a) (b . c) . 1)"}, {vec(dot(b, a)), "#((a . b))"}, {dot(sym("b", 3), sym("a", 4)), "(a . b)"},
		{list(quote, a), "'a"}, {list(quasi, a), "`a"}, {list(comma, a), ",a"}, {list(splice, a), ",@a"},
		{list(sym("quote", 1), a), "'a"}, {list(sym("quasiquote", 2, 3), a), "`a"}, {list(sym("unquote", 1<<20), sym("a", 5)), ",a"}, {list(sym("unquote-splicing", 1, 1, 1), a), ",@a"},
		{list(quote, list()), "'()"}, {list(quote, list(a, b)), "'(a b)"}, {list(quote, vec(a)), "'#(a)"}, {list(quote, dot(b, a)), "'(a . b)"}, {list(quote, num(5)), "'5"}, {list(quote, str("a")), `'"a"`}, {list(quote, quote), "'quote"}, {list(quote, list(quote, a)), "''a"}, {list(quasi, list(splice, list(comma, list(quote, a)))), "`,@,'a"}, {list(comma, sym("...")), ",..."}, {list(quote, list(quote)), "'(quote)"},
		{list(quote), "(quote)"}, {list(quote, a, b), "(quote a b)"}, {dot(a, quote), "(quote . a)"}, {vec(quote, a), "#(quote a)"}, {dot(b, quote, a), "(quote a . b)"}, {list(a, quote, b), "(a quote b)"}, {list(list(quote), a), "((quote) a)"}, {list(str("quote"), a), `("quote" a)`}, {list(sym("Quote"), a), "(Quote a)"}, {list(sym("quotes"), a), "(quotes a)"}, {list(sym("quot"), a), "(quot a)"}, {list(a, quote), "(a quote)"}, {list(vec(quote), a), "(#(quote) a)"},
		{list(list(quote, a), list(comma, b)), "('a ,b)"}, {vec(list(quote, a)), "#('a)"}, {dot(c, list(quote, a)), "('a . c)"}, {dot(vec(list(quote, a)), b), "(b . #('a))"},
		{api.Datum{K: api.DList, M: []int{}, L: []api.Datum{}, T: []api.Datum{}}, "()"},
	} {
		if s, e := read.Print(x.d); s != x.want || e != api.OK {
			t.Errorf("Print(%v) is %q, %d; want %q", x.d, s, int(e), x.want)
		}
		if s := printed(x.d); s != x.want {
			t.Errorf("the tests' printer: %q, not %q", s, x.want)
		}
	}
}

// P4.3: mixed data, against the tests' printer.
func TestPrintMixed(t *testing.T) {
	for _, d := range grown(3, 3000) {
		want, e := printed(d), api.OK
		if len(want) > 1<<14 {
			want, e = "", api.ErrLong
		}
		if s, f := read.Print(d); s != want || f != e {
			t.Fatalf("Print(%v) is %q, %d; want %q", d, s, int(f), want)
		}
	}
}

// P4.3: what is invalid has no text, wherever it is, and the error is datum.Check's.
func TestPrintInvalid(t *testing.T) {
	round := list(num(1), api.Datum{})
	round.L[1] = round
	bush := num(1)
	for range 60 {
		bush = list(bush, bush)
	}
	wrong := []api.Datum{
		{}, {K: -1}, {K: 9}, {K: 1 << 40, S: "a"}, num(1 << 60), num(-1<<60 - 1), truth(2), truth(-1), char(128), char(-1), str("\x80"), str(strings.Repeat("s", 257)), sym(""), sym("1"), sym("a b"), sym(strings.Repeat("y", 33)), sym("a", 0), sym("a", 1<<20+1), sym("quote", -1),
		{K: api.DFix, N: 1, S: "1"}, {K: api.DList, N: 1}, {K: api.DList, T: []api.Datum{num(1)}}, {K: api.DVec, M: []int{1}}, {K: api.DSym, S: "a", L: []api.Datum{num(1)}}, {K: api.DDot}, {K: api.DDot, L: []api.Datum{num(1)}}, {K: api.DDot, T: []api.Datum{num(1)}},
		dot(list(), num(1)), dot(list(sym("quote"), num(1)), num(1)), dot(dot(num(1), num(1)), num(1)), {K: api.DDot, L: []api.Datum{num(1)}, T: []api.Datum{num(1), num(2)}},
		nest(64, num(1)), nest(9000, num(1)), round, bush, list(make([]api.Datum, 5000)...),
	}
	for _, d := range wrong {
		for _, x := range []api.Datum{d, list(d), list(sym("quote"), d), list(num(1), vec(d)), dot(d, num(1)), dot(num(1), d), nest(63, d), list(num(1), nest(70, d))} {
			want := datum.Check(x)
			if s, e := read.Print(x); want == api.OK || e != want || s != "" {
				t.Errorf("Print: %q, %d, not %d", s, int(e), int(want))
			}
			if s, e := read.Lines(num(1), x, num(2)); e != want || s != "" {
				t.Errorf("Lines: %q, %d, not %d", s, int(e), int(want))
			}
		}
	}
}

// P4.3: Lines is the text of each, with a byte 10 behind it.
func TestLines(t *testing.T) {
	for want, l := range map[string][]api.Datum{
		"": nil, "a\n": {sym("a", 7)}, "()\n": {list()}, "a\n'b\n(c . 1)\n": {sym("a"), list(sym("quote"), sym("b")), dot(num(1), sym("c"))}, "\"\\n\"\n#\\newline\n#()\n": {str("\n"), char(10), vec()}, "a\na\n": {sym("a"), sym("a")},
	} {
		if s, e := read.Lines(l...); s != want || e != api.OK {
			t.Errorf("Lines(%v) is %q, %d; want %q", l, s, int(e), want)
		}
	}
	if s, e := read.Lines(); s != "" || e != api.OK {
		t.Error("Lines of nothing:", s, int(e))
	}
	l := grown(9, 4)
	want := ""
	for _, d := range l {
		want += printed(d) + "\n"
	}
	if s, e := read.Lines(l...); s != want || e != api.OK {
		t.Errorf("Lines(%s) is %q, %d", fmt.Sprint(l), s, int(e))
	}
}
