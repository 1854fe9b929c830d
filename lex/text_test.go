package lex_test

import (
	"slices"
	"strings"
	"testing"

	"shuttle/api"
	"shuttle/lex"
)

// P3.2: the text of each kind of token.
func TestText(t *testing.T) {
	for _, x := range []struct {
		t    api.Token
		want string
	}{
		{api.Token{K: api.TkOpen}, "("}, {api.Token{K: api.TkClose}, ")"}, {api.Token{K: api.TkVec}, "#("}, {api.Token{K: api.TkQuote}, "'"}, {api.Token{K: api.TkQuasi}, "`"},
		{api.Token{K: api.TkComma}, ","}, {api.Token{K: api.TkSplice}, ",@"}, {api.Token{K: api.TkDot}, "."},
		{api.Token{K: api.TkFix}, "0"}, {api.Token{K: api.TkFix, N: -42}, "-42"}, {api.Token{K: api.TkFix, N: 1<<60 - 1}, "1152921504606846975"}, {api.Token{K: api.TkFix, N: -1 << 60}, "-1152921504606846976"},
		{api.Token{K: api.TkBool}, "#f"}, {api.Token{K: api.TkBool, N: 1}, "#t"},
		{api.Token{K: api.TkChar}, `#\nul`}, {api.Token{K: api.TkChar, N: 9}, `#\tab`}, {api.Token{K: api.TkChar, N: 10}, `#\newline`}, {api.Token{K: api.TkChar, N: 32}, `#\space`},
		{api.Token{K: api.TkChar, N: 1}, `#\x01`}, {api.Token{K: api.TkChar, N: 13}, `#\x0d`}, {api.Token{K: api.TkChar, N: 31}, `#\x1f`}, {api.Token{K: api.TkChar, N: 127}, `#\x7f`},
		{api.Token{K: api.TkChar, N: 33}, `#\!`}, {api.Token{K: api.TkChar, N: 126}, `#\~`}, {api.Token{K: api.TkChar, N: 'a'}, `#\a`}, {api.Token{K: api.TkChar, N: 'x'}, `#\x`}, {api.Token{K: api.TkChar, N: '('}, `#\(`}, {api.Token{K: api.TkChar, N: '\\'}, `#\\`}, {api.Token{K: api.TkChar, N: '"'}, `#\"`},
		{api.Token{K: api.TkStr}, `""`}, {api.Token{K: api.TkStr, S: "a b~!'"}, `"a b~!'"`}, {api.Token{K: api.TkStr, S: "\n\t\\\""}, `"\n\t\\\""`}, {api.Token{K: api.TkStr, S: "\x00\r\x1f\x7f"}, `"\x00\x0d\x1f\x7f"`}, {api.Token{K: api.TkStr, S: "\x0f\x10"}, `"\x0f\x10"`},
		{api.Token{K: api.TkSym, S: "a"}, "a"}, {api.Token{K: api.TkSym, S: "..."}, "..."}, {api.Token{K: api.TkSym, S: "call/1cc"}, "call/1cc"},
	} {
		for _, place := range []struct{ at, to int }{{0, 0}, {3, 9}, {-1, -5}, {1 << 40, 0}} { // no text hangs on the place
			x.t.At, x.t.To = place.at, place.to
			if s, e := lex.Text(x.t); s != x.want || e != api.OK {
				t.Errorf("Text(%v) is %q, %d; want %q", x.t, s, int(e), x.want)
			}
		}
	}
}

// P3.2: the text of every character, alone and in a string.
func TestTextOfCharacters(t *testing.T) {
	names := map[int]string{0: "nul", 9: "tab", 10: "newline", 32: "space"}
	escapes := map[int]string{9: `\t`, 10: `\n`, 34: `\"`, 92: `\\`}
	for n := range 128 {
		code := "x" + string("01234567"[n/16]) + string("0123456789abcdef"[n%16])
		char, inside := string([]byte{byte(n)}), string([]byte{byte(n)})
		if n < 32 || n == 127 {
			char, inside = code, `\`+code
		}
		if name, there := names[n]; there {
			char = name
		}
		if escape, there := escapes[n]; there {
			inside = escape
		}
		if s, e := lex.Text(api.Token{K: api.TkChar, N: int64(n)}); s != `#\`+char || e != api.OK {
			t.Errorf("character %d: %q, %d", n, s, int(e))
		}
		if s, e := lex.Text(api.Token{K: api.TkStr, S: "a" + string([]byte{byte(n), byte(n)})}); s != `"a`+inside+inside+`"` || e != api.OK {
			t.Errorf("string of %d: %q, %d", n, s, int(e))
		}
	}
}

// P3.2, R2: what no token has.
func TestTextOfWrong(t *testing.T) {
	for _, x := range wrong() {
		if s, e := lex.Text(x); s != "" || e != api.ErrWord {
			t.Errorf("Text(%.100v) is %q, %d", x, s, int(e))
		}
		for _, l := range [][]api.Token{{x}, {{K: api.TkOpen}, x}, {x, {K: api.TkOpen}}, append(slices.Repeat([]api.Token{{K: api.TkDot}}, 1<<12-1), x)} {
			if s, e := lex.Join(l...); s != "" || e != api.ErrWord {
				t.Errorf("Join with %.100v is %.100q, %d", x, s, int(e))
			}
		}
	}
}

// P3.2: Join puts one space between two texts.
func TestJoin(t *testing.T) {
	for _, x := range []struct {
		l    []api.Token
		want string
	}{
		{nil, ""}, {[]api.Token{}, ""}, {[]api.Token{{K: api.TkStr}}, `""`}, {[]api.Token{{K: api.TkSym, S: "a"}}, "a"},
		{[]api.Token{{K: api.TkOpen}, {K: api.TkClose}}, "( )"},
		{[]api.Token{{K: api.TkComma}, {K: api.TkSplice}, {K: api.TkQuote}, {K: api.TkSym, S: "x", At: 99, To: 3}}, ", ,@ ' x"},
		{[]api.Token{{K: api.TkChar, N: 32}, {K: api.TkStr, S: " "}, {K: api.TkFix, N: -1}}, `#\space " " -1`},
	} {
		if s, e := lex.Join(x.l...); s != x.want || e != api.OK {
			t.Errorf("Join(%v) is %q, %d; want %q", x.l, s, int(e), x.want)
		}
	}
	var texts []string
	for _, x := range tokens() {
		s, e := lex.Text(x)
		if e != api.OK {
			t.Fatal(x, e)
		}
		texts = append(texts, s)
	}
	if s, e := lex.Join(tokens()...); s != strings.Join(texts, " ") || e != api.OK {
		t.Error("Join of all:", s, e)
	}
}

// P3.2: too many tokens go ahead of one that is wrong, and that ahead of a text that is too long.
func TestJoinLimits(t *testing.T) {
	open, wide, odd := api.Token{K: api.TkOpen}, api.Token{K: api.TkStr, S: strings.Repeat("s", 126)}, api.Token{K: api.TkOpen, N: 1}
	times := func(x api.Token, count int, more ...api.Token) []api.Token {
		return append(slices.Repeat([]api.Token{x}, count), more...)
	}
	sym := func(size int) api.Token { return api.Token{K: api.TkSym, S: strings.Repeat("y", size)} }
	for _, x := range []struct {
		what string
		l    []api.Token
		size int
		e    api.Errno
	}{
		{"as many as may be", times(open, 1<<12), 1<<13 - 1, api.OK},
		{"one too many", times(open, 1<<12+1), 0, api.ErrLong},
		{"far too many, all wrong", times(odd, 1<<14), 0, api.ErrLong},
		{"too many, the first one wrong", append([]api.Token{odd}, times(open, 1<<12)...), 0, api.ErrLong},
		{"as many as may be, the last one wrong", times(open, 1<<12-1, odd), 0, api.ErrWord},
		{"as long as may be", times(wide, 127, open), 1 << 14, api.OK},
		{"one byte too long", times(wide, 127, api.Token{K: api.TkVec}), 0, api.ErrLong},
		{"one token too long", times(wide, 127, open, open), 0, api.ErrLong},
		{"one space too long", times(open, 1, times(wide, 127, open)...), 0, api.ErrLong},
		{"symbols, as long as may be", times(sym(32), 496, sym(16)), 1 << 14, api.OK},
		{"symbols, one byte too long", times(sym(32), 496, sym(17)), 0, api.ErrLong},
		{"far too long", times(wide, 1<<12), 0, api.ErrLong},
		{"too long, and then one wrong", times(wide, 1<<12-1, odd), 0, api.ErrWord},
		{"one wrong, and then too long", append([]api.Token{odd}, times(wide, 1<<12-1)...), 0, api.ErrWord},
		{"too long by what is escaped", times(api.Token{K: api.TkStr, S: strings.Repeat("\x01", 256)}, 17), 0, api.ErrLong},
		{"long, escaped", times(api.Token{K: api.TkStr, S: strings.Repeat("\x01", 256)}, 15), 15*(4*256+2) + 14, api.OK},
	} {
		s, e := lex.Join(x.l...)
		if len(s) != x.size || e != x.e {
			t.Errorf("%s: %d bytes, %d; want %d, %d", x.what, len(s), int(e), x.size, int(x.e))
		}
	}
}

// P3.3: places, by hand.
func TestPlace(t *testing.T) {
	for _, x := range []struct {
		s                string
		at, line, column int
	}{
		{"", 0, 1, 1}, {"", -1, 1, 1}, {"", 1, 1, 1}, {"", 1 << 62, 1, 1}, {"", -1 << 63, 1, 1},
		{"ab\nc", 0, 1, 1}, {"ab\nc", 1, 1, 2}, {"ab\nc", 2, 1, 3}, {"ab\nc", 3, 2, 1}, {"ab\nc", 4, 2, 2}, {"ab\nc", 5, 2, 2}, {"ab\nc", 1<<63 - 1, 2, 2}, {"ab\nc", -7, 1, 1},
		{"\n", 0, 1, 1}, {"\n", 1, 2, 1}, {"\n", 2, 2, 1}, {"\n\n\n", 2, 3, 1}, {"\n\n\n", 3, 4, 1}, {"\n\na\n", 3, 3, 2},
		{"a\r\nb", 2, 1, 3}, {"a\r\nb", 3, 2, 1}, {"a\rb", 2, 1, 3}, {"\tb", 1, 1, 2}, {"\u00e9b", 2, 1, 3}, {"\x00\n\xff\x0a", 3, 2, 2},
	} {
		if line, column := lex.Place(x.s, x.at); line != x.line || column != x.column {
			t.Errorf("Place(%q, %d) is %d, %d; want %d, %d", x.s, x.at, line, column, x.line, x.column)
		}
	}
}

// P3.3: places, byte by byte; of any text, also one with faults or too long.
func TestPlaces(t *testing.T) {
	for _, s := range append(texts(100), "\n\nab\n\n", strings.Repeat("ab\n", 10000), strings.Repeat("\xff", 1<<14+1)) {
		line, column := 1, 1
		step := 1 + len(s)/2000
		for at := 0; at <= len(s)+5; at++ {
			if at%step == 0 || at >= len(s) {
				if l, c := lex.Place(s, at); l != line || c != column {
					t.Fatalf("Place(%.50q, %d) is %d, %d; want %d, %d", s, at, l, c, line, column)
				}
			}
			if at < len(s) && s[at] == '\n' {
				line, column = line+1, 1
			} else if at < len(s) {
				column++
			}
		}
	}
}
