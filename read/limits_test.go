package read_test

import (
	"slices"
	"strings"
	"testing"

	"shuttle/api"
	"shuttle/read"
)

// P4.1: as many data as may be, and what may stand behind them.
func TestManyForms(t *testing.T) {
	for part, d := range map[string]api.Datum{
		"a ": sym("a"), "()": list(), "#(5)": vec(num(5)), "'a ": list(sym("quote"), sym("a")), ",@,a\n": list(sym("unquote-splicing"), list(sym("unquote"), sym("a"))), "(a . b)": dot(sym("b"), sym("a")), `"x"`: str("x"),
	} {
		want := make([]api.Form, 256)
		for i := range want {
			want[i] = api.Form{At: i * len(part), D: d}
		}
		s := strings.Repeat(part, 256)
		check(t, s, want, 0, api.OK)
		check(t, s[:len(s)-len(part)], want[:255], 0, api.OK)
		for _, after := range []string{" ", "\n\t\r", "; a", " #| a |# ;"} {
			check(t, s+after, want, 0, api.OK)
		}
		for _, next := range []string{"a", "5", "#t", `#\a`, `""`, "(", ")", "()", "(a", "(. a)", "#(", "#(.)", "'", "')", "'a", ",", ",@", "`", ".", ". a", "a )", "( )", ")) 5"} {
			check(t, s+" "+next, nil, len(s)+1, api.ErrLong)
			check(t, s+";\n#||#"+next, nil, len(s)+6, api.ErrLong)
		}
		check(t, s+" a 1x", nil, len(s)+3, api.ErrWord)
		check(t, s+s, nil, len(s), api.ErrLong)
		// The last datum that may be, with a fault of its own.
		s = s[:len(s)-len(part)]
		check(t, s+" )", nil, len(s)+1, api.ErrClose)
		check(t, s+" (a . b c) d", nil, len(s)+8, api.ErrClose)
		check(t, s+" (a", nil, len(s)+1, api.ErrOpen)
		check(t, s+" '(a '", nil, len(s)+5, api.ErrOpen)
		check(t, s+" "+within("(", 65, "", ")")+" a", nil, len(s)+1, api.ErrDeep)
		check(t, s+" ("+strings.Repeat("'a ", 1366)+") a", nil, len(s)+1, api.ErrLong)
	}
}

// P4.1: as many bytes and tokens as may be, and one more.
func TestLongTexts(t *testing.T) {
	most := "(a b)" + strings.Repeat(" ", 1<<14-6)
	check(t, most+"c", []api.Form{{At: 0, D: list(sym("a"), sym("b"))}, {At: 1<<14 - 1, D: sym("c")}}, 0, api.OK)
	check(t, most+"(", nil, 1<<14-1, api.ErrOpen)
	check(t, most+")", nil, 1<<14-1, api.ErrClose)
	check(t, most+"  ", nil, 0, api.ErrLong)
	row := slices.Repeat([]api.Datum{num(7)}, 4094)
	check(t, "("+strings.Repeat("7 ", 4094)+")", []api.Form{{D: list(row...)}}, 0, api.OK)
	check(t, "#("+strings.Repeat("7 ", 4094)+")", []api.Form{{D: vec(row...)}}, 0, api.OK)
	check(t, "("+strings.Repeat("7 ", 4095)+")", nil, 1+2*4095, api.ErrLong)
	check(t, "("+strings.Repeat("7 ", 4095), nil, 0, api.ErrOpen)
	check(t, strings.Repeat("(", 4096), nil, 4095, api.ErrOpen)
	check(t, strings.Repeat("'", 4096), nil, 4095, api.ErrOpen)
	check(t, "a "+strings.Repeat(",@", 4095), nil, 2*4095, api.ErrOpen)
	check(t, strings.Repeat("'", 4095)+")", nil, 4095, api.ErrClose)
	check(t, strings.Repeat("(", 4095)+".", nil, 4095, api.ErrClose)
}

// P4.1: as deep as may be, and one deeper.
func TestDeepTexts(t *testing.T) {
	check(t, within("(", 64, "", ")"), []api.Form{{D: nest(63, list())}}, 0, api.OK)
	check(t, within("(", 65, "", ")"), nil, 0, api.ErrDeep)
	for _, x := range []struct{ before, inner, after string }{
		{"(", "a", ")"}, {"#(", "a", ")"}, {"'", "a", ""}, {",@", "()", ""}, {"(b ", "#()", " c)"}, {"(quote ", "5", ")"}, {"(", "\"\"", " . b)"},
	} {
		fits, deep := within(x.before, 63, x.inner, x.after), within(x.before, 64, x.inner, x.after)
		want, _, _ := oracle(fits)
		check(t, fits, want, 0, api.OK)
		check(t, fits+" b", append(want, api.Form{At: len(fits) + 1, D: sym("b")}), 0, api.OK)
		check(t, deep, nil, 0, api.ErrDeep)
		check(t, "b c "+deep, nil, 4, api.ErrDeep)
		// A fault in the tokens of the datum comes ahead, one behind it doesn't.
		check(t, "b "+deep+" )", nil, 2, api.ErrDeep)
		check(t, "b "+deep+" (", nil, 2, api.ErrDeep)
		check(t, "b "+deep+" "+within("(", 200, "", ")"), nil, 2, api.ErrDeep)
		check(t, "b ("+deep+" . )", nil, 6+len(deep), api.ErrClose)
		check(t, "b ("+deep, nil, 2, api.ErrOpen)
		check(t, "b '"+deep+" c", nil, 2, api.ErrDeep)
	}
	check(t, within("(", 2048, "", ")"), nil, 0, api.ErrDeep)
	check(t, strings.Repeat("'", 4095)+"a", nil, 0, api.ErrDeep)
	// Tails are no deeper than what they are the tail of, unless they are vectors.
	check(t, within("(", 62, "(a . (b . (c . d)))", ")"), []api.Form{{D: nest(62, dot(sym("d"), sym("a"), sym("b"), sym("c")))}}, 0, api.OK)
	check(t, within("(", 62, "(a . #())", ")"), []api.Form{{D: nest(62, dot(vec(), sym("a")))}}, 0, api.OK)
	check(t, within("(", 63, "(a . #())", ")"), nil, 0, api.ErrDeep)
	check(t, within("(", 62, "(a . (b . #(c)))", ")"), nil, 0, api.ErrDeep)
	check(t, within("(", 62, "(a . 'b)", ")"), []api.Form{{D: nest(62, list(sym("a"), sym("quote"), sym("b")))}}, 0, api.OK)
	check(t, within("(", 62, "(a 'b)", ")"), nil, 0, api.ErrDeep)
}

// P4.1: as many nodes as may be, and one more.
func TestManyNodes(t *testing.T) {
	a, b, c := sym("a"), sym("b"), sym("c")
	quoted := list(sym("quote"), a)
	many := slices.Repeat([]api.Datum{quoted}, 1364) // of 4092 nodes
	s := strings.Repeat("'a ", 1364)
	with := func(l ...api.Datum) []api.Datum { return append(slices.Clone(many), l...) }
	for text, want := range map[string]api.Datum{
		"(" + s + "a b c)": list(with(a, b, c)...), "#(" + s + "a b c)": vec(with(a, b, c)...), "(" + s + "a b . c)": dot(c, with(a, b)...), "(a . (" + s + "b c))": list(append([]api.Datum{a}, with(b, c)...)...), "(" + s + "'a)": list(with(quoted)...), "(" + s + "a . #(b))": dot(vec(b), with(a)...),
	} {
		check(t, text, []api.Form{{D: want}}, 0, api.OK)
	}
	for _, text := range []string{"(" + s + "a b c a)", "#(" + s + "a b c a)", "(" + s + "a b c . a)", "(a . (" + s + "b c a))", "(" + s + "'a b)", "(" + s + "a . #(b c))", "(" + s + "'a 'b)", "(" + s + "('a))"} {
		check(t, text, nil, 0, api.ErrLong)
		check(t, "a 'b "+text, nil, 5, api.ErrLong)
		check(t, "a 'b "+text+")", nil, 5, api.ErrLong)
		check(t, "a 'b "+text+" '", nil, 5, api.ErrLong)
		check(t, "a 'b "+text[:len(text)-1], nil, 5, api.ErrOpen)
		check(t, "a '"+text, nil, 2, api.ErrLong)
	}
	// Of two limits, the one tells that the datum is beyond first, node by node.
	deep := within("(", 64, "", ")")
	check(t, "a ("+s+"b c "+deep+")", nil, 2, api.ErrLong)
	check(t, "a ("+deep+s+"b c)", nil, 2, api.ErrDeep)
	check(t, "a ("+s+"b c 'd) ("+deep+")", nil, 2, api.ErrLong)
	check(t, "a ("+deep+") ("+s+"b c 'd)", nil, 2, api.ErrDeep)
}

// full is a list whose text, if the last string in it has 63 characters, is as long as may be: 63 strings of 258 bytes, one of 65, 63 spaces, ( and ).
func full(last int) api.Datum {
	return list(append(slices.Repeat([]api.Datum{str(strings.Repeat("s", 256))}, 63), str(strings.Repeat("s", last)))...)
}

// P4.3: a text as long as may be, and one longer.
func TestLongPrint(t *testing.T) {
	fits := full(63)
	if s, e := read.Print(fits); e != api.OK || len(s) != 1<<14 || s != printed(fits) {
		t.Errorf("as long as may be: %d bytes, %d", len(s), int(e))
	}
	for _, d := range []api.Datum{list(append(fits.L, list())...), vec(fits.L...), full(64), dot(num(1), fits.L...), list(sym("quote"), fits), list(slices.Repeat([]api.Datum{str(strings.Repeat("\x00", 256))}, 4000)...)} {
		if s, e := read.Print(d); e != api.ErrLong || s != "" || len(printed(d)) <= 1<<14 {
			t.Errorf("too long: %d bytes, %d", len(s), int(e))
		}
	}
	for _, d := range []api.Datum{list(slices.Repeat([]api.Datum{list()}, 4095)...), vec(slices.Repeat([]api.Datum{num(-12)}, 4095)...)} { // more tokens than a text may have
		if s, e := read.Print(d); e != api.OK || s != printed(d) {
			t.Errorf("many tokens: %d bytes, %d", len(s), int(e))
		}
	}
}

// P4.3: as many lines as may be, and one more; as long ones, and one byte more.
func TestLongLines(t *testing.T) {
	lines := func(count, each int) []api.Datum {
		return slices.Repeat([]api.Datum{str(strings.Repeat("s", each))}, count)
	}
	for _, x := range []struct {
		what string
		l    []api.Datum
		e    api.Errno
	}{
		{"as many as may be", lines(256, 0), api.OK},
		{"one too many", lines(257, 0), api.ErrLong},
		{"as long as may be", lines(256, 61), api.OK},
		{"one too long", append(lines(255, 61), lines(1, 62)...), api.ErrLong},
		{"far too long", lines(256, 256), api.ErrLong},
		{"one too many, invalid ones", make([]api.Datum, 257), api.ErrLong},
		{"as many as may be, invalid ones", make([]api.Datum, 256), api.ErrDatum},
		{"too long together, and an invalid one", append(lines(200, 256), num(1<<60)), api.ErrDatum},
		{"too long together, and one too deep", append(lines(200, 256), nest(64, num(1))), api.ErrDeep},
		{"too long alone ahead of an invalid one", []api.Datum{list(lines(64, 256)...), num(1 << 60)}, api.ErrLong},
		{"too long alone behind an invalid one", []api.Datum{num(1 << 60), list(lines(64, 256)...)}, api.ErrDatum},
		{"too deep ahead of an invalid one", []api.Datum{num(1), nest(64, num(1)), num(1 << 60)}, api.ErrDeep},
		{"an invalid one ahead of one too deep", []api.Datum{num(1), num(1 << 60), nest(64, num(1))}, api.ErrDatum},
	} {
		s, e := read.Lines(x.l...)
		want := ""
		if x.e == api.OK {
			for _, d := range x.l {
				want += printed(d) + "\n"
			}
		}
		if e != x.e || s != want {
			t.Errorf("%s: %d bytes, %d", x.what, len(s), int(e))
		}
	}
	if s, _ := read.Lines(lines(256, 61)...); len(s) != 1<<14 {
		t.Error("as long as may be:", len(s))
	}
	// One byte is left for the end of a line, or none is.
	if s, e := read.Lines(full(63)); e != api.ErrLong || s != "" {
		t.Error("no byte for the end of the line:", len(s), int(e))
	}
	if s, e := read.Lines(full(62)); e != api.OK || len(s) != 1<<14 {
		t.Error("a byte for the end of the line:", len(s), int(e))
	}
}
