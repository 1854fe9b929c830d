package read_test

import (
	"fmt"
	"slices"
	"strings"
	"testing"

	"shuttle/api"
	"shuttle/read"
)

// check holds Read, Forms and One against what they have to answer.
func check(t *testing.T, s string, want []api.Form, at int, e api.Errno) {
	t.Helper()
	l, i, f := read.Read(s)
	if !slices.EqualFunc(l, want, alike) || i != at || f != e {
		t.Fatalf("Read(%.200q) is %.300s, %d, %d; want %.300s, %d, %d", s, fmt.Sprint(l), i, int(f), fmt.Sprint(want), at, int(e))
	}
	if l := collect(s); !slices.EqualFunc(l, want, alike) {
		t.Fatalf("Forms(%.200q): %.300s", s, fmt.Sprint(l))
	}
	d, f := read.One(s)
	switch {
	case e == api.OK && len(want) == 1:
		if f != api.OK || !even(d, want[0].D) {
			t.Fatalf("One(%.200q): %.300s, %d", s, fmt.Sprint(d), int(f))
		}
	case e == api.OK:
		if f != api.ErrForm || !none(d) {
			t.Fatalf("One(%.200q): %.300s, %d", s, fmt.Sprint(d), int(f))
		}
	default:
		if f != e || !none(d) {
			t.Fatalf("One(%.200q): %.300s, %d", s, fmt.Sprint(d), int(f))
		}
	}
}

// single holds what is read of a text of one datum against that; the text stands at several places.
func single(t *testing.T, s string, want api.Datum) {
	t.Helper()
	check(t, s, []api.Form{{At: 0, D: want}}, 0, api.OK)
	check(t, " "+s+"\n", []api.Form{{At: 1, D: want}}, 0, api.OK)
	check(t, "; x\n#||#a\t"+s+" "+s, []api.Form{{At: 8, D: sym("a")}, {At: 10, D: want}, {At: 11 + len(s), D: want}}, 0, api.OK)
	check(t, "("+s+" "+s+")", []api.Form{{At: 0, D: list(want, want)}}, 0, api.OK)
}

// wrong holds a fault against what is told of it, also behind other data.
func wrong(t *testing.T, s string, at int, e api.Errno) {
	t.Helper()
	check(t, s, nil, at, e)
	check(t, "a 'b (c) "+s, nil, 9+at, e)
	check(t, "\n#(#\\()"+s, nil, 7+at, e)
}

// P4.1: data of every kind, with and without abbreviations.
func TestData(t *testing.T) {
	a, b, c := sym("a"), sym("b"), sym("c")
	quote, quasi, comma, splice := sym("quote"), sym("quasiquote"), sym("unquote"), sym("unquote-splicing")
	for s, want := range map[string]api.Datum{
		"0": num(0), "-5": num(-5), "1152921504606846975": num(1<<60 - 1), "-1152921504606846976": num(-1 << 60),
		"#f": truth(0), "#t": truth(1), `#\a`: char('a'), `#\nul`: char(0), `#\x7f`: char(127), `#\(`: char('('), `#\)`: char(')'), `#\'`: char('\''),
		`""`: str(""), `"a \n)"`: str("a \n)"), `"\x00"`: str("\x00"), "a": a, "...": sym("..."), "+": sym("+"), "-": sym("-"), "quote": quote,
		"()": list(), "( )": list(), "(a)": list(a), "(a b)": list(a, b), "(a(b)c)": list(a, list(b), c), "(())": list(list()), "(()())": list(list(), list()), "((a) . b)": dot(b, list(a)),
		"#()": vec(), "#( a )": vec(a), "#(a b c)": vec(a, b, c), "#(#()())": vec(vec(), list()), "(#(a))": list(vec(a)), "#((a . b))": vec(dot(b, a)), "#('a)": vec(list(quote, a)),
		"(a . b)": dot(b, a), "(a b . c)": dot(c, a, b), "(a . 5)": dot(num(5), a), `(a . "b")`: dot(str("b"), a), `(a . #\b)`: dot(char('b'), a), "(a . #f)": dot(truth(0), a), "(() . a)": dot(a, list()), "(#() . a)": dot(a, vec()),
		"(a . #())": dot(vec(), a), "(a . #(b))": dot(vec(b), a), "(a . #(b c))": dot(vec(b, c), a), "(a . #((b . c)))": dot(vec(dot(c, b)), a),
		"'a": list(quote, a), "`a": list(quasi, a), ",a": list(comma, a), ",@a": list(splice, a), "' a": list(quote, a), "'\n;b\na": list(quote, a), "'5": list(quote, num(5)), "'()": list(quote, list()), "'#(a)": list(quote, vec(a)), "'(a . b)": list(quote, dot(b, a)), "',a": list(quote, list(comma, a)),
		"''a": list(quote, list(quote, a)), "`,@,'a": list(quasi, list(splice, list(comma, list(quote, a)))), "'('a)": list(quote, list(list(quote, a))), "('a b 'c)": list(list(quote, a), b, list(quote, c)), "`(a ,b ,@c)": list(quasi, list(a, list(comma, b), list(splice, c))),
		"'quote": list(quote, quote), "('quote)": list(list(quote, quote)), "(quote a)": list(quote, a), "(quote)": list(quote), "(quote a b)": list(quote, a, b), "(quote . a)": dot(a, quote), "('a . b)": dot(b, list(quote, a)), "('a . 'b)": list(list(quote, a), quote, b),
		"#(quote a)": vec(quote, a), "(a 'b . c)": dot(c, a, list(quote, b)), "(a . 'b)": list(a, quote, b), "(a . ''b)": list(a, quote, list(quote, b)), "(a . ,b)": list(a, comma, b), "(a . ,@b)": list(a, splice, b), "(a . `b)": list(a, quasi, b), "(a . (quote b))": list(a, quote, b), "'(a . 'b)": list(quote, list(a, quote, b)),
	} {
		single(t, s, want)
	}
}

// P4.1: a tail that is a list, or an improper one, however deep.
func TestTails(t *testing.T) {
	a, b, c, d := sym("a"), sym("b"), sym("c"), sym("d")
	for s, want := range map[string]api.Datum{
		"(a . ())": list(a), "(a . (b))": list(a, b), "(a . (b c))": list(a, b, c), "(a b . (c d))": list(a, b, c, d), "(a . ((b)))": list(a, list(b)), "(a . (()))": list(a, list()), "(() . ())": list(list()), "((a) . (b))": list(list(a), b),
		"(a . (b . c))": dot(c, a, b), "(a . (b . (c . d)))": dot(d, a, b, c), "(a . (b . (c . (d))))": list(a, b, c, d), "(a . (b . (c . ())))": list(a, b, c), "(a b . (c . d))": dot(d, a, b, c), "(a . (b c . d))": dot(d, a, b, c), "(a . ((b . c) . d))": dot(d, a, dot(c, b)), "((a . b) . (c . d))": dot(d, dot(b, a), c), "(a . (b . #(c)))": dot(vec(c), a, b), "(a . (b . 'c))": list(a, b, sym("quote"), c), "#((a . (b)))": vec(list(a, b)),
		"'(a . (b . c))": list(sym("quote"), dot(c, a, b)), "(a . (b . (c)) )": list(a, b, c), "(a .(b .(c))\n)": list(a, b, c),
	} {
		single(t, s, want)
	}
	row := slices.Repeat([]api.Datum{a}, 1000)
	for s, want := range map[string]api.Datum{
		within("(a . ", 1000, "()", ")"): list(row...), within("(a . ", 1000, "b", ")"): dot(b, row...), within("(a . ", 998, "(a a)", ")"): list(row...), within("(a . ", 999, "(a . #(b))", ")"): dot(vec(b), row...),
	} {
		check(t, " "+s, []api.Form{{At: 1, D: want}}, 0, api.OK)
	}
	wrong(t, within("(a . ", 1000, "", ")"), 5000, api.ErrClose)
	wrong(t, strings.Repeat("(a . ", 1000), 4995, api.ErrOpen)
	wrong(t, within("(a . ", 1000, "b c", ")"), 5002, api.ErrClose)
}

// P4.1: no text is no data.
func TestNothing(t *testing.T) {
	for _, s := range []string{"", " ", "\n\t\r ", "; a", ";\n", "#||#", "#| ( #| ) |# . |#", strings.Repeat(" ", 1<<14), " ; '\n #| ' |#"} {
		check(t, s, nil, 0, api.OK)
	}
}

// P4.1: a token that is not permitted where it stands.
func TestClose(t *testing.T) {
	for s, at := range map[string]int{
		")": 0, ".": 0, " )": 1, "\n.": 1, "))": 0, "()()())": 6, "(a))": 3, "a . b": 2, "a)": 1, "#())": 3, "'a)": 2, "'a . b": 3,
		"')": 1, "`)": 1, ",)": 1, ",@)": 2, "'.": 1, "` .": 2, ", . a": 2, ",@ . a": 3, "'')": 2, "('))": 2, "(')": 2, "#(')": 3, "(' . a)": 3, "(a ' )": 5, "(a . ')": 6, "(a . ' . b)": 7, "',@)": 3,
		"( . a)": 2, "(. a)": 1, "( . )": 2, "(.)": 1, "(. . a)": 1, "((. a))": 2, "(() (. a))": 5, "'(. a)": 2,
		"(a . )": 5, "(a .)": 4, "(a . . b)": 5, "(a . . )": 5, "(a b . )": 7, "(a . (b . ))": 10, "((a . ) b": 6, "(a . ) (": 5,
		"#(.)": 2, "#( . a)": 3, "#(a . b)": 4, "#(a b . c)": 6, "#(a .": 4, "(#(a . b))": 5, "#((a . b) . c)": 10, "'#(a . b)": 5, "(a . #(b . c))": 9,
		"(a . b c)": 7, "(a . b . c)": 7, "(a . b .)": 7, "(a . b ())": 7, "(a . b (": 7, "(a . b #(": 7, "(a . b 'c)": 7, "(a . b ' )": 7, "(a . b ,": 7, "(a . b ,@": 7, "(a . b `": 7, "(a . b 5)": 7, "(a . b #t)": 7, `(a . b #\c)`: 7, `(a . b"")`: 6, "(a . () b)": 8, "(a . () . b)": 8, "(a . (b) c)": 9, "(a . (b . c) d)": 13, "(a . (b . c d))": 12, "(a . 'b c)": 8, "(a . #(b) c)": 10, "(a b . c d)": 9, "((a . b c))": 8, "(a . ''b c": 9,
	} {
		wrong(t, s, at, api.ErrClose)
		wrong(t, s+" )", at, api.ErrClose)
		wrong(t, s+" (", at, api.ErrClose)
	}
}

// P4.1: a text that ends within a datum.
func TestOpen(t *testing.T) {
	for s, at := range map[string]int{
		"(": 0, " (": 1, "( a": 0, "(a b": 0, "((": 1, "(()": 0, "((a) b": 0, "((a) (b": 5, "(a (b (c) d": 3, "(a (b (c) d)": 0, "(#()": 0, "(#(": 1, "('a": 0,
		"#(": 0, "#( a": 0, "#(a (b)": 0, "#(a (b": 4, "#(()": 0, "#(#(": 2, "#('": 2, "#('a": 0,
		"'": 0, "`": 0, ",": 0, ",@": 0, "' ; a": 0, "''": 1, "'a '": 3, "'(": 1, "'(a": 1, "'#(": 1, "('(a) '": 6, "'(a) `": 5, ",@'": 2, "',@": 1, "(a '": 3, "(a 'b '(": 7, "(a 'b ": 0,
		"(a .": 0, "(a . b": 0, "(a . (": 5, "(a . (b": 5, "(a . (b)": 0, "(a . (b .": 5, "(a . (b . c": 5, "(a . (b . c)": 0, "(a . '": 5, "(a . 'b": 0, "(a . #(": 5, "(a . #(b)": 0, "'(a . b": 1, "(a . '(b": 6, "(a . () ": 0,
	} {
		wrong(t, s, at, api.ErrOpen)
		wrong(t, s+" ; )", at, api.ErrOpen)
		wrong(t, s+"\n#| ) |#", at, api.ErrOpen)
	}
}

// P4.1: lex.Words' error comes ahead of all others, wherever it is.
func TestWords(t *testing.T) {
	for _, x := range []struct {
		s  string
		at int
		e  api.Errno
	}{
		{"1x", 0, api.ErrWord}, {"(a) (b 1x)", 7, api.ErrWord}, {") 1x", 2, api.ErrWord}, {"( . a) #\\ab", 7, api.ErrWord}, {"((( +5", 4, api.ErrWord}, {"' a'b", 2, api.ErrWord},
		{") 1152921504606846976", 2, api.ErrOver}, {") \"a", 2, api.ErrEnd}, {"( #| )", 2, api.ErrEnd}, {"( #\\", 2, api.ErrEnd}, {") 1x \x00", 5, api.ErrNight}, {"; \x7f", 2, api.ErrNight}, {"(\u00e9", 1, api.ErrNight},
		{strings.Repeat(" ", 1<<14+1), 0, api.ErrLong}, {strings.Repeat(")", 1<<14+1), 0, api.ErrLong},
		{strings.Repeat("(", 1<<12+1), 1 << 12, api.ErrLong}, {strings.Repeat("a ", 1<<12+1), 1 << 13, api.ErrLong}, {strings.Repeat(") ", 1<<12+1), 1 << 13, api.ErrLong}, {strings.Repeat("'", 1<<12+1) + "a", 1 << 12, api.ErrLong},
		{strings.Repeat("a ", 300) + "1x", 600, api.ErrWord}, {within("(", 65, "", ")") + " 1x", 131, api.ErrWord},
	} {
		check(t, x.s, nil, x.at, x.e)
	}
}

// P4.1: all short rows of tokens, against the oracle.
func TestShortTexts(t *testing.T) {
	parts := []string{"( ", ")", "#(", "' ", "\n,@", " . ", " a "}
	count, good := 0, 0
	var add func(s string, left int)
	add = func(s string, left int) {
		want, at, e := oracle(s)
		if l, i, f := read.Read(s); !slices.EqualFunc(l, want, alike) || i != at || f != e {
			t.Fatalf("Read(%q) is %v, %d, %d; want %v, %d, %d", s, l, i, int(f), want, at, int(e))
		}
		count++
		if e == api.OK {
			good++
		}
		if left > 0 {
			for _, p := range parts {
				add(s+p, left-1)
			}
		}
	}
	add("", 6)
	if count < 100000 || good < 1500 {
		t.Error("only so many texts, without faults:", count, good)
	}
}

// P4.1: mixed texts with a fault or none, against the oracle.
func TestMixedTexts(t *testing.T) {
	pick := picker(5)
	g := grower{pick}
	extra := []string{"(", ")", " . ", "'", ",@", "#(", " a ", " 1x ", "\""}
	seen := map[api.Errno]int{}
	for range 20000 {
		var b strings.Builder
		for range pick(4) {
			b.WriteString(g.text(g.datum(4)) + g.blank())
		}
		s := b.String()
		if pick(2) == 0 { // something is put in, or left out
			i := pick(len(s) + 1)
			k := min(len(s), i+pick(2))
			s = s[:i] + extra[pick(len(extra))] + s[k:]
		}
		want, at, e := oracle(s)
		check(t, s, want, at, e)
		seen[e]++
	}
	for _, e := range []api.Errno{api.OK, api.ErrClose, api.ErrOpen, api.ErrWord, api.ErrEnd} {
		if seen[e] < 200 {
			t.Error("only so often:", int(e), seen[e])
		}
	}
}

// P4.2: Forms yields the data as often as it is asked, up to where it is left.
func TestForms(t *testing.T) {
	s := " a (b . c) 'd #(5) "
	want, _, _ := oracle(s)
	forms := read.Forms(s)
	for stop := range want {
		seen := 0
		for at, d := range forms {
			if !alike(api.Form{At: at, D: d}, want[seen]) {
				t.Fatal("another datum", at, d, want[seen])
			}
			if seen == stop {
				break
			}
			seen++
		}
		if seen != stop {
			t.Fatal("left at", seen, "not", stop)
		}
	}
	for _, s := range []string{"", "a b )", "a b (", "a 1x", strings.Repeat("a ", 257), "a " + within("(", 65, "", ")")} {
		for at, d := range read.Forms(s) {
			t.Fatalf("Forms(%.80q) yields %v at %d", s, d, at)
		}
	}
}

// P4.2: One has a datum only if there is just one; Read's error comes ahead of that.
func TestOne(t *testing.T) {
	for s, e := range map[string]api.Errno{
		"": api.ErrForm, " ; a": api.ErrForm, "a b": api.ErrForm, "a a": api.ErrForm, "()()": api.ErrForm, "'a 'b": api.ErrForm, "(a) ; b\n c": api.ErrForm, strings.Repeat("a ", 256): api.ErrForm,
		strings.Repeat("a ", 257): api.ErrLong, "a )": api.ErrClose, "a b (": api.ErrOpen, "a b 1x": api.ErrWord, "a " + within("(", 65, "", ")"): api.ErrDeep, "a \x00": api.ErrNight,
	} {
		if d, f := read.One(s); f != e || !none(d) {
			t.Errorf("One(%.80q): %v, %d, not %d", s, d, int(f), int(e))
		}
	}
	for _, s := range []string{"a", "\n(a . b) ; c", "#||#'a"} {
		want, _, _ := oracle(s)
		if d, e := read.One(s); e != api.OK || !even(d, want[0].D) {
			t.Errorf("One(%q): %v, %d", s, d, int(e))
		}
	}
}
