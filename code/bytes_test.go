package code_test

import (
	"bytes"
	"slices"
	"strings"
	"testing"

	"shuttle/api"
	"shuttle/code"
	"shuttle/read"
)

// taker takes what is written from bytes; it fails where there is too little.
type taker struct {
	b   []byte
	bad bool
}

func (t *taker) number() int {
	if len(t.b) < 2 {
		t.b, t.bad = nil, true
		return 0
	}
	n := 256*int(t.b[0]) + int(t.b[1])
	t.b = t.b[2:]
	return n
}

func (t *taker) text() string {
	n := t.number()
	if n > len(t.b) {
		t.b, t.bad = nil, true
		return ""
	}
	s := string(t.b[:n])
	t.b = t.b[n:]
	return s
}

// unspell is the valid program that is written so, if there is one.
func unspell(b []byte) (api.Prog, bool) {
	t := &taker{b: b}
	var p api.Prog
	for n := t.number(); n > 0 && !t.bad; n-- {
		s := t.text()
		d, e := read.One(s)
		again, _ := read.Print(d)
		t.bad = t.bad || e != api.OK || again != s
		p.Consts = append(p.Consts, d)
	}
	for n := t.number(); n > 0 && !t.bad; n-- {
		p.Names = append(p.Names, t.text())
	}
	for n := t.number(); n > 0 && !t.bad; n-- {
		c := api.Code{Params: t.number()}
		c.Rest = t.number()
		c.Caps = t.number()
		c.Max = t.number()
		for n := t.number(); n > 0 && !t.bad; n-- {
			in := api.Ins{Op: t.number()}
			in.A = t.number()
			in.B = t.number()
			c.Ins = append(c.Ins, in)
		}
		p.Codes = append(p.Codes, c)
	}
	if t.bad || len(t.b) > 0 || !legal(p) {
		return api.Prog{}, false
	}
	return p, true
}

// parses compares Parse with that, and tells whether there is a program.
func parses(t *testing.T, b []byte) bool {
	t.Helper()
	want, is := unspell(b)
	kept := slices.Clone(b)
	p, e := code.Parse(b)
	if is && (e != api.OK || !equal(p, want)) || !is && (e != api.ErrBytes || !none(p)) {
		t.Fatalf("Parse(%v): %s, %d, not %s", b, brief(p), int(e), brief(want))
	}
	if again, f := code.Bytes(p); is && (f != api.OK || !bytes.Equal(again, b)) {
		t.Fatalf("Bytes of Parse(%v): %v, %d", b, again, int(f))
	}
	if !bytes.Equal(b, kept) {
		t.Fatalf("the argument has changed: %v", kept)
	}
	return is
}

// P9.3: Bytes' errors, in their order.
func TestBytesErrors(t *testing.T) {
	line := str(strings.Repeat("s", 256))
	full := list(append(slices.Repeat([]api.Datum{line}, 63), str(strings.Repeat("s", 63)))...)
	long := list(append(slices.Repeat([]api.Datum{line}, 63), str(strings.Repeat("s", 64)))...)
	if s, _ := read.Print(full); len(s) != 1<<14 {
		t.Fatal("it should be as long as may be:", len(s))
	}
	for _, x := range []struct {
		what   string
		e      api.Errno
		parse  api.Errno
		consts []api.Datum
		max    int
	}{
		{"as long a text as may be", api.OK, api.OK, []api.Datum{full}, 1},
		{"twice as long a text as may be", api.OK, api.OK, []api.Datum{full, vec(full.L[1:]...)}, 1},
		{"a text too long", api.ErrLong, 0, []api.Datum{long}, 1},
		{"the last text is too long", api.ErrLong, 0, []api.Datum{num(1), full, long}, 1},
		{"a text too long in an invalid program", api.ErrCode, 0, []api.Datum{long}, 2},
		{"a text too long ahead of an invalid datum", api.ErrCode, 0, []api.Datum{long, {}}, 1},
		{"a text too long ahead of an equal one", api.ErrCode, 0, []api.Datum{long, long}, 1},
		{"as many tokens as may be", api.OK, api.OK, []api.Datum{list(slices.Repeat([]api.Datum{list()}, 2047)...)}, 1},
		{"too many tokens", api.OK, api.ErrBytes, []api.Datum{list(slices.Repeat([]api.Datum{list()}, 2048)...)}, 1},
		{"too many tokens in the last one", api.OK, api.ErrBytes, []api.Datum{num(1), num(2), vec(slices.Repeat([]api.Datum{list()}, 2048)...)}, 1},
	} {
		p := api.Prog{Consts: x.consts, Codes: []api.Code{{Max: x.max, Ins: asm("const 0, return")}}}
		b, e := code.Bytes(p)
		if e != x.e || e != api.OK && b != nil {
			t.Errorf("Bytes of %s: %d, not %d", x.what, int(e), int(x.e))
		}
		if e == api.OK {
			if q, f := code.Parse(b); f != x.parse || (f == api.OK) != equal(q, p) {
				t.Errorf("Parse of Bytes of %s: %d, not %d", x.what, int(f), int(x.parse))
			}
		}
		holds(t, p)
	}
}

// P9.3: bytes that are cut anywhere, or have something at the end.
func TestCutBytes(t *testing.T) {
	b, e := code.Bytes(sample())
	if e != api.OK || !parses(t, b) {
		t.Fatal("Bytes", int(e))
	}
	for i := range b {
		if parses(t, b[:i]) || parses(t, b[i+1:]) || parses(t, slices.Concat(b[:i], b[i+1:])) {
			t.Errorf("cut at %d there is a program", i)
		}
	}
	for last := range 256 {
		if parses(t, append(slices.Clone(b), byte(last))) || parses(t, append(slices.Clone(b), 0, byte(last))) || parses(t, append([]byte{byte(last)}, b...)) {
			t.Errorf("with %d more there is a program", last)
		}
	}
	if parses(t, nil) || parses(t, []byte{}) || parses(t, slices.Concat(b, b)) || parses(t, make([]byte, 6)) || parses(t, bytes.Repeat([]byte{255}, 1000)) {
		t.Error("there is a program of no bytes, or twice as many")
	}
}

// P9.3: each byte replaced by each other one.
func TestChangedBytes(t *testing.T) {
	t.Parallel()
	b, _ := code.Bytes(sample())
	count := 0
	for i := range b {
		c := slices.Clone(b)
		for n := range 256 {
			c[i] = byte(n)
			if parses(t, c) && byte(n) != b[i] {
				count++
			}
		}
	}
	if count < 100 {
		t.Error("only so many are programs:", count)
	}
}

// P9.3: bytes that name a program that is invalid.
func TestInvalidBytes(t *testing.T) {
	for _, p := range []api.Prog{
		{},
		{Consts: numbers(1), Codes: []api.Code{{Max: 2, Ins: asm("const 0, return")}}},
		{Consts: numbers(1), Codes: []api.Code{{Params: 1, Max: 1, Ins: asm("const 0, return")}}},
		{Consts: numbers(1), Codes: []api.Code{{Max: 1, Ins: asm("const 0, return, return")}}},
		{Consts: numbers(1), Codes: []api.Code{{Max: 1, Ins: asm("const 1, return")}}},
		{Consts: []api.Datum{num(1), num(1)}, Codes: []api.Code{{Max: 1, Ins: asm("const 0, return")}}},
		{Consts: numbers(1), Names: []string{"a", "a"}, Codes: []api.Code{{Max: 1, Ins: asm("const 0, return")}}},
		{Consts: numbers(1), Names: []string{"1"}, Codes: []api.Code{{Max: 1, Ins: asm("const 0, return")}}},
		{Consts: numbers(1), Names: []string{""}, Codes: []api.Code{{Max: 1, Ins: asm("const 0, return")}}},
		{Consts: numbers(1), Names: []string{"a\xff"}, Codes: []api.Code{{Max: 1, Ins: asm("const 0, return")}}},
		{Consts: numbers(1025), Codes: []api.Code{{Max: 1, Ins: asm("const 0, return")}}},
		{Consts: numbers(1), Codes: slices.Repeat([]api.Code{{Max: 1, Ins: asm("const 0, return")}}, 1025)},
	} {
		texts, _, _ := printed(p.Consts)
		if parses(t, spell(p, texts)) {
			t.Errorf("%s is a program", brief(p))
		}
	}
}

// P9.3: texts of constants that aren't what read.Print writes, or no datum.
func TestConstantTexts(t *testing.T) {
	p := api.Prog{Codes: []api.Code{{Max: 1, Ins: asm("const 0, return")}}}
	for s, is := range map[string]bool{
		"5": true, "-5": true, "a": true, "()": true, "(a b)": true, "(a . b)": true, "'a": true, "#(1)": true, `"a b"`: true, `#\a`: true, `#\space`: true, "#t": true, "(quote a b)": true, `"\x00"`: true, "'()": true, ",@x": true,
		"": false, " ": false, " 5": false, "5 ": false, "05": false, "-0": false, "+5": false, "5;": false, "5 6": false, "( )": false, "(a  b)": false, "(a b )": false, "(a . (b))": false, "(quote a)": false, "' a": false, "# (1)": false, "#|a|#a": false, "\"a\nb\"": false, `"\x61"`: false, `#\x61`: false, `#\x20`: false, "#t#t": false, "(": false, ")": false, "'": false, "\x00": false, "\xff": false, "1x": false, "1152921504606846976": false, "(unquote-splicing x)": false,
		strings.Repeat("(", 64) + strings.Repeat(")", 64): true, strings.Repeat("(", 65) + strings.Repeat(")", 65): false, "(" + strings.Repeat("() ", 2046) + "())": true, "(" + strings.Repeat("() ", 2047) + "())": false,
		strings.Repeat(" ", 1<<14) + "5": false, strings.Repeat(" ", 65534) + "5": false,
	} {
		if got := parses(t, spell(p, []string{s})); got != is {
			t.Errorf("with the text %.40q there is a program: %t", s, got)
		}
		if parses(t, spell(p, []string{s, s})) || parses(t, spell(p, []string{"6", s})) != is {
			t.Errorf("with the text %.40q beside another one, or twice", s)
		}
	}
}

// P9.3: numbers that tell of more than there is.
func TestWrongCounts(t *testing.T) {
	p := sample()
	texts, _, _ := printed(p.Consts)
	good := spell(p, texts)
	at := []int{0, 2}
	for i := 2; len(at) < 4; { // where the lengths of the constants are, and then the number of names
		i += 2 + 256*int(good[i]) + int(good[i+1])
		at = append(at, i)
	}
	for _, i := range append(at, len(good)-2*6-2, len(good)-2*6-4) {
		for _, n := range []int{0, 1, 2, 3, 4, 5, 255, 256, 1024, 1025, 4096, 4097, 32767, 32768, 65534, 65535} {
			b := slices.Clone(good)
			same := b[i] == byte(n>>8) && b[i+1] == byte(n)
			b[i], b[i+1] = byte(n>>8), byte(n)
			if parses(t, b) != same {
				t.Errorf("with %d at %d there is a program", n, i)
			}
		}
	}
}
