package lex_test

import (
	"slices"
	"strings"
	"testing"

	"shuttle/api"
	"shuttle/lex"
)

// faultless are the tokens of a text that has no fault.
func faultless(t *testing.T, s string) []api.Token {
	t.Helper()
	l, at, e := lex.Words(s)
	if at != 0 || e != api.OK {
		t.Fatalf("Words(%.100q): %d, %d", s, at, int(e))
	}
	return l
}

// P3.4: Words of Join are the tokens, each alone, any two side by side, and mixed ones in a row.
func TestRoundTrip(t *testing.T) {
	hold := func(l ...api.Token) {
		t.Helper()
		s, e := lex.Join(l...)
		if e != api.OK {
			t.Fatal(l, e)
		}
		if !slices.Equal(bare(faultless(t, s)), l) {
			t.Fatalf("%v became %q", l, s)
		}
	}
	hold()
	all := tokens()
	hold(all...)
	for _, a := range all {
		hold(a)
		for _, b := range all[:40] {
			hold(a, b)
			hold(b, a)
		}
	}
	pick := picker(2)
	for range 300 {
		l := make([]api.Token, pick(30))
		for i := range l {
			l[i] = all[pick(len(all))]
		}
		hold(l...)
	}
	hold(slices.Repeat([]api.Token{{K: api.TkSym, S: "abc"}}, 1<<12)...)
}

// P3.5: tokens follow one another in the text, and the bytes of each alone are that token; what is between them is blanks and comments.
func TestPositions(t *testing.T) {
	seen := 0
	for _, s := range texts(5000) {
		l, _, e := lex.Words(s)
		if e != api.OK {
			continue
		}
		end := 0
		for _, x := range l {
			if x.At < end || x.To <= x.At || x.To > len(s) {
				t.Fatalf("%q: %v", s, l)
			}
			if between := faultless(t, s[end:x.At]); len(between) != 0 {
				t.Fatalf("%q: %v between tokens", s, between)
			}
			alone := faultless(t, s[x.At:x.To])
			if !slices.Equal(placed(alone, x.At), []api.Token{x}) {
				t.Fatalf("%q: %v, but alone %v", s, x, alone)
			}
			end = x.To
			seen++
		}
		if len(faultless(t, s[end:])) != 0 {
			t.Fatalf("%q: more tokens", s)
		}
	}
	if seen < 10000 {
		t.Error("only so many tokens:", seen)
	}
}

// P3.6: blanks and comments before and after a text change places only.
func TestBlanksDoNotMatter(t *testing.T) {
	before := []string{" ", "\t", "\n", "\r", " \n\t", "; a\n", ";\n;(\n", "#||#", "#| #| \" |# ; |#", "#|a|# "}
	after := []string{" ", "\t", "\n", "\r", "\n\n", ";", "; a \" #|", " #||#", "\n#| #| ; |# |#", " ; #|\n"}
	for _, s := range append(texts(1000), "", "a", "1", "#t", "#f", ".", "...", "-", "'", "#\\a", "\"b\"") {
		want, at, e := lex.Words(s)
		for _, b := range before {
			wantAt := at
			if e != api.OK {
				wantAt += len(b)
			}
			check(t, b+s, placed(want, len(b)), wantAt, e)
		}
		if e != api.OK {
			continue
		}
		for _, a := range after {
			check(t, s+"\n"+a, want, 0, api.OK) // on a line of its own: a comment may go on to the text's end
			if !strings.ContainsAny(s, ";") {
				check(t, s+a, want, 0, api.OK)
			}
		}
	}
	// Behind a run, though, #| goes on with it, since a run ends at the next delimiter, which # is none of.
	check(t, "a#||#", nil, 0, api.ErrWord)
	check(t, "a #||#", []api.Token{{K: api.TkSym, To: 1, S: "a"}}, 0, api.OK)
}

// R3, R4: the same calls have the same answers, each in memory of its own, and change no argument.
func TestAgain(t *testing.T) {
	for _, s := range append(texts(300), "", "a b (c)") {
		l, at, e := lex.Words(s)
		kept := slices.Clone(l)
		for i := range l[:cap(l)] {
			l[:cap(l)][i] = api.Token{K: 77, S: "written over"}
		}
		check(t, s, kept, at, e)
		if all := lex.All(s); !slices.Equal(slices.Collect(all), kept) || !slices.Equal(slices.Collect(all), kept) {
			t.Fatalf("All(%q)", s)
		}
	}
	l, again := tokens(), tokens()
	s, e := lex.Join(l...)
	if !slices.Equal(l, again) {
		t.Error("Join changed its arguments")
	}
	l[0] = api.Token{K: api.TkDot}
	if r, f := lex.Join(again...); r != s || f != e {
		t.Error("Join again:", r, f)
	}
}
