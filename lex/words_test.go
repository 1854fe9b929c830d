package lex_test

import (
	"slices"
	"strings"
	"testing"

	"shuttle/api"
	"shuttle/lex"
)

// check holds Words against what it has to answer.
func check(t *testing.T, s string, want []api.Token, at int, e api.Errno) {
	t.Helper()
	if l, i, f := lex.Words(s); !slices.Equal(l, want) || i != at || f != e {
		t.Fatalf("Words(%.80q) is %.300v, %d, %d; want %.300v, %d, %d", s, l, i, int(f), want, at, int(e))
	}
}

// P3.1: tokens of each kind, with their places.
func TestTokens(t *testing.T) {
	for s, want := range map[string][]api.Token{
		"":                     nil,
		" \t\r\n":              nil,
		"(":                    {{K: api.TkOpen, At: 0, To: 1}},
		"\n)":                  {{K: api.TkClose, At: 1, To: 2}},
		"#( ":                  {{K: api.TkVec, At: 0, To: 2}},
		"'":                    {{K: api.TkQuote, At: 0, To: 1}},
		"`":                    {{K: api.TkQuasi, At: 0, To: 1}},
		",":                    {{K: api.TkComma, At: 0, To: 1}},
		",@":                   {{K: api.TkSplice, At: 0, To: 2}},
		",@a":                  {{K: api.TkSplice, At: 0, To: 2}, {K: api.TkSym, At: 2, To: 3, S: "a"}},
		",,@'`a":               {{K: api.TkComma, At: 0, To: 1}, {K: api.TkSplice, At: 1, To: 3}, {K: api.TkQuote, At: 3, To: 4}, {K: api.TkQuasi, At: 4, To: 5}, {K: api.TkSym, At: 5, To: 6, S: "a"}},
		".":                    {{K: api.TkDot, At: 0, To: 1}},
		"...":                  {{K: api.TkSym, At: 0, To: 3, S: "..."}},
		"#t":                   {{K: api.TkBool, At: 0, To: 2, N: 1}},
		"#f":                   {{K: api.TkBool, At: 0, To: 2}},
		"0":                    {{K: api.TkFix, At: 0, To: 1}},
		"-5":                   {{K: api.TkFix, At: 0, To: 2, N: -5}},
		"-":                    {{K: api.TkSym, At: 0, To: 1, S: "-"}},
		"+":                    {{K: api.TkSym, At: 0, To: 1, S: "+"}},
		"1152921504606846975":  {{K: api.TkFix, At: 0, To: 19, N: 1<<60 - 1}},
		"-1152921504606846976": {{K: api.TkFix, At: 0, To: 20, N: -1 << 60}},
		"set-car! x":           {{K: api.TkSym, At: 0, To: 8, S: "set-car!"}, {K: api.TkSym, At: 9, To: 10, S: "x"}},
		"(a . \"b\\n\")":       {{K: api.TkOpen, At: 0, To: 1}, {K: api.TkSym, At: 1, To: 2, S: "a"}, {K: api.TkDot, At: 3, To: 4}, {K: api.TkStr, At: 5, To: 10, S: "b\n"}, {K: api.TkClose, At: 10, To: 11}},
		"a(b\"c\"d;e":          {{K: api.TkSym, At: 0, To: 1, S: "a"}, {K: api.TkOpen, At: 1, To: 2}, {K: api.TkSym, At: 2, To: 3, S: "b"}, {K: api.TkStr, At: 3, To: 6, S: "c"}, {K: api.TkSym, At: 6, To: 7, S: "d"}},
		"1\t2\r3\n4 5":         {{K: api.TkFix, At: 0, To: 1, N: 1}, {K: api.TkFix, At: 2, To: 3, N: 2}, {K: api.TkFix, At: 4, To: 5, N: 3}, {K: api.TkFix, At: 6, To: 7, N: 4}, {K: api.TkFix, At: 8, To: 9, N: 5}},
		"#t)#f":                {{K: api.TkBool, At: 0, To: 2, N: 1}, {K: api.TkClose, At: 2, To: 3}, {K: api.TkBool, At: 3, To: 5}},
		"''#()":                {{K: api.TkQuote, At: 0, To: 1}, {K: api.TkQuote, At: 1, To: 2}, {K: api.TkVec, At: 2, To: 4}, {K: api.TkClose, At: 4, To: 5}},
		"-(.\"\"":              {{K: api.TkSym, At: 0, To: 1, S: "-"}, {K: api.TkOpen, At: 1, To: 2}, {K: api.TkDot, At: 2, To: 3}, {K: api.TkStr, At: 3, To: 5}},
	} {
		check(t, s, want, 0, api.OK)
	}
	check(t, ", @", nil, 2, api.ErrWord) // no symbol begins with @
}

// P3.1: strings, and what is denoted in them.
func TestStrings(t *testing.T) {
	for s, want := range map[string]string{
		`""`: "", `"a"`: "a", `"a b"`: "a b", `" "`: " ", `"~!"`: "~!", `"'(#;|@,)"`: "'(#;|@,)", `"#|"`: "#|", `";"`: ";",
		`"\n"`: "\n", `"\t"`: "\t", `"\\"`: "\\", `"\""`: "\"", `"\\\""`: "\\\"", `"\\n"`: "\\n", `"\n\n"`: "\n\n", `"\"\""`: "\"\"", `"x\\"`: "x\\",
		`"\x00"`: "\x00", `"\x41"`: "A", `"\x0d"`: "\r", `"\x7f"`: "\x7f", `"\x22"`: "\"", `"\x5c"`: "\\", `"\x5cn"`: "\\n", `"\x413"`: "A3", `"\x7f\x7f"`: "\x7f\x7f", `"\\x41"`: "\\x41", `"x41"`: "x41", `"\x41\x42"`: "AB",
	} {
		check(t, s, []api.Token{{K: api.TkStr, To: len(s), S: want}}, 0, api.OK)
		check(t, "("+s+s, []api.Token{{K: api.TkOpen, To: 1}, {K: api.TkStr, At: 1, To: 1 + len(s), S: want}, {K: api.TkStr, At: 1 + len(s), To: 1 + 2*len(s), S: want}}, 0, api.OK)
	}
	for _, s := range []string{`"\q"`, `"\N"`, `"\0"`, `"\ "`, `"\r"`, `"\'"`, `"\(" `, `"\x"`, `"\x4"`, `"\x4 "`, `"\xg0"`, `"\x0g"`, `"\x4A"`, `"\xA4"`, `"\X41"`, `"\x80"`, `"\xab"`, `"\xff"`, `"\x-1"`, `"\x4\\"`, `"\x\4"`, `"\x\n"`, "\"\n\"", "\"\t\"", "\"\r\"", "\"a\\\nb\"", "\"\\\t\"", "\"\\\r\""} {
		check(t, "a "+s, nil, 2, api.ErrWord)
	}
	for _, s := range []string{`"`, `"a`, `"\`, `"\"`, `"\\\"`, `"\q`, `"\x4\"`, "\"\n", `" ; `, `" #| |#`} {
		check(t, "( "+s, nil, 2, api.ErrEnd)
		check(t, `"a"`+s, nil, 3, api.ErrEnd)
	}
}

// P3.1: every byte in a string, alone and behind a backslash.
func TestStringBytes(t *testing.T) {
	for b := range 256 {
		c := string([]byte{byte(b)})
		switch {
		case b > 126 || b < 32 && b != 9 && b != 10 && b != 13:
			check(t, `"`+c+`"`, nil, 1, api.ErrNight)
			check(t, `"\`+c+`"`, nil, 2, api.ErrNight)
			continue
		case b == '"':
			check(t, `"""`, nil, 2, api.ErrEnd)
		case b == '\\':
			check(t, `"\"`, nil, 0, api.ErrEnd)
		case b < 32:
			check(t, `"`+c+`"`, nil, 0, api.ErrWord)
		default:
			check(t, `"`+c+`"`, []api.Token{{K: api.TkStr, To: 3, S: c}}, 0, api.OK)
		}
		if i := strings.IndexByte(`nt\"`, byte(b)); i >= 0 {
			check(t, `"\`+c+`"`, []api.Token{{K: api.TkStr, To: 4, S: "\n\t\\\""[i : i+1]}}, 0, api.OK)
		} else {
			check(t, `"\`+c+`"`, nil, 0, api.ErrWord)
		}
	}
}

// P3.1: what is longest among strings: MaxText characters, however many bytes they take.
func TestLongStrings(t *testing.T) {
	for part, c := range map[string]string{"a": "a", " ": " ", `\n`: "\n", `\\`: `\`, `\x00`: "\x00"} {
		s := `"` + strings.Repeat(part, 256) + `"`
		check(t, s, []api.Token{{K: api.TkStr, To: len(s), S: strings.Repeat(c, 256)}}, 0, api.OK)
		check(t, `x "`+strings.Repeat(part, 257)+`"`, nil, 2, api.ErrWord)
		check(t, `x "`+strings.Repeat(part, 257), nil, 2, api.ErrEnd)
	}
	long := strings.Repeat("y", 32)
	check(t, long, []api.Token{{K: api.TkSym, To: 32, S: long}}, 0, api.OK)
	check(t, " "+long+"y", nil, 1, api.ErrWord)
}

// P3.1: characters.
func TestCharacters(t *testing.T) {
	for s, n := range map[string]int64{
		`#\space`: 32, `#\newline`: 10, `#\tab`: 9, `#\nul`: 0, `#\x00`: 0, `#\x0a`: 10, `#\x20`: 32, `#\x41`: 65, `#\x7f`: 127, `#\x`: 'x', `#\a`: 'a', `#\z`: 'z', `#\n`: 'n',
	} {
		for _, after := range []string{"", " ", "(", ")", `""`, ";", "\n", "'", "#(", "#||#", ",@", "- ", "... ", "A "} {
			l, _, e := lex.Words(s + after)
			if e != api.OK || len(l) == 0 || l[0] != (api.Token{K: api.TkChar, To: len(s), N: n}) {
				t.Errorf("%s%s: %v, %d", s, after, l, int(e))
			}
		}
	}
	for _, s := range []string{`#\ab`, `#\a1`, `#\x4`, `#\x410`, `#\x80`, `#\xff`, `#\xg0`, `#\x0g`, `#\spac`, `#\spaces`, `#\space1`, `#\nil`, `#\null`, `#\return`, `#\linefeed`, `#\newline9`, `#\ `, "#\\\n", "#\\\t", "#\\\r", `#\ a`} {
		check(t, "'"+s, nil, 1, api.ErrWord)
		check(t, "'"+s+" (", nil, 1, api.ErrWord)
	}
	check(t, `#\`, nil, 0, api.ErrEnd)
	check(t, `(#\`, nil, 1, api.ErrEnd)
	check(t, `#\a#\`, nil, 3, api.ErrEnd)
	// What follows a character that is no lower-case letter is a token of its own.
	check(t, `#\Space`, []api.Token{{K: api.TkChar, To: 3, N: 'S'}, {K: api.TkSym, At: 3, To: 7, S: "pace"}}, 0, api.OK)
	check(t, `#\12`, []api.Token{{K: api.TkChar, To: 3, N: '1'}, {K: api.TkFix, At: 3, To: 4, N: 2}}, 0, api.OK)
	check(t, `#\aB`, []api.Token{{K: api.TkChar, To: 3, N: 'a'}, {K: api.TkSym, At: 3, To: 4, S: "B"}}, 0, api.OK)
	check(t, `#\x4A`, nil, 0, api.ErrWord)
	check(t, `#\##\\#\"`, []api.Token{{K: api.TkChar, To: 3, N: '#'}, {K: api.TkChar, At: 3, To: 6, N: '\\'}, {K: api.TkChar, At: 6, To: 9, N: '"'}}, 0, api.OK)
	for b := 33; b <= 126; b++ {
		c := string([]byte{byte(b)})
		check(t, `#\`+c, []api.Token{{K: api.TkChar, To: 3, N: int64(b)}}, 0, api.OK)
		if b >= 'a' && b <= 'z' {
			check(t, `#\`+c+`m"`, nil, 0, api.ErrWord)
			check(t, `#\m`+c+`"`, nil, 0, api.ErrWord)
		} else {
			check(t, `#\`+c+`m"`, nil, 4, api.ErrEnd)
		}
		if b >= '0' && b <= '9' {
			check(t, `#\m`+c+`"`, nil, 0, api.ErrWord)
		}
	}
}

// P3.1: runs that are no token.
func TestWrongRuns(t *testing.T) {
	for _, s := range []string{
		"1b", "+5", "-5x", "01", "-0", "-01", "+0", "1+", "1.5", "1'", "1#", "1|", "--", "++", "+a", "-a", "-+1", "+-1", "..", "....", ".a", ".5", "...a",
		"#", "#x", "#T", "#tt", "#true", "#f#t", "#t'", "#'a", "#,", "#1", "|", "|#", "a|b", "a'b", "a`", "a,b", "a,@b", "a#", "a#|b|#", "#t#|b|#", "1#|b|#", ".#||#", "a\\", "\\", "@", "[", "]", "{}", "a[0]", "a#\\b",
	} {
		for _, after := range []string{"", " ", "\t", "\n", "\r", "(", ")", `"x"`, ";"} {
			if s+after != "#(" {
				check(t, "( "+s+after, nil, 2, api.ErrWord)
			}
		}
	}
	for _, s := range []string{"1152921504606846976", "-1152921504606846977", "9999999999999999999999", "18446744073709551617", strings.Repeat("9", 16000)} {
		check(t, "\n"+s, nil, 1, api.ErrOver)
		check(t, "\n"+s+")", nil, 1, api.ErrOver)
		check(t, "\n"+s+"x", nil, 1, api.ErrWord)
		check(t, "\n0"+s, nil, 1, api.ErrWord)
		check(t, "\n+"+s, nil, 1, api.ErrWord)
	}
}

// P3.1: comments, of both sorts.
func TestComments(t *testing.T) {
	a, b := api.Token{K: api.TkSym, S: "a"}, api.Token{K: api.TkSym, S: "b"}
	for s, want := range map[string][]api.Token{
		";": nil, "; a": nil, ";;;": nil, "; a\n": nil, "; a\nb": {b}, ";\na;\nb": {a, b}, "a;b": {a}, "a;b\nb": {a, b}, "; a\rb": nil, "; \"\nb": {b}, "; #|\nb": {b}, "; |#\nb": {b}, ";; #\\\nb": {b},
		"#||#": nil, "#| a |#": nil, "#||#b": {b}, "#|a|#b": {b}, "#| #| |# |#b": {b}, "#| #||# #||# |# b": {b}, "#|#|#|#||#|#|#|#b": {b}, "#|||#b": {b}, "#|||||#b": {b}, "#|## |#b": {b}, "#|\n\t\r|#b": {b},
		"#|;|#b": {b}, "#| ;\n|#b": {b}, "#|\"|#b": {b}, "#|\\|#b": {b}, "#| 1x \"\\q\" #\\ab |# b": {b}, "a #|;\n|# b": {a, b}, "a ; #|\nb; |#": {a, b}, "#|a|##|b|#b": {b},
		"(#||#)": {{K: api.TkOpen}, {K: api.TkClose}}, "'#|a|#b": {{K: api.TkQuote}, b}, "\"\"#|a|#b": {{K: api.TkStr}, b}, "#\\a#|a|#b": {{K: api.TkChar, N: 'a'}, b},
	} {
		l, at, e := lex.Words(s)
		if !slices.Equal(bare(l), want) || at != 0 || e != api.OK {
			t.Errorf("%q: %v, %d, %d", s, l, at, int(e))
		}
	}
	for s, at := range map[string]int{
		"#|": 0, "#|#": 0, "#| |": 0, "#|a": 0, "a #|": 2, "#| #| |#": 0, "#| #| |# ": 0, "#| |# #|": 6, "#|#||#": 0, "(#|)": 1, "#| ; |": 0, "#| \" ": 0, "#||# #| #||#": 5, "\"a\"#|": 3, "#|#|#": 0, "#|###|#": 0, ";#|\n#|": 4,
	} {
		check(t, s, nil, at, api.ErrEnd)
	}
	for s, at := range map[string]int{"#| |# |#": 6, "#|a|#|": 5, ",#|a|#@": 6, "|#": 0} {
		check(t, s, nil, at, api.ErrWord)
	}
}

// P3.1: bytes that are no character of the language go ahead of every other fault, and the first of them counts.
func TestNight(t *testing.T) {
	for b := range 256 {
		c := string([]byte{byte(b)})
		if b >= 32 && b <= 126 || b == 9 || b == 10 || b == 13 {
			if _, _, e := lex.Words("; " + c); e != api.OK {
				t.Errorf("%q in a comment: %d", c, int(e))
			}
			continue
		}
		for _, before := range []string{"", "a", "(", "; ", "#| ", "#||# ", `"`, `"\`, `"\x`, `#\`, `#\a`, "1a ", "+5 ", "\" \n\" ", "1152921504606846976 ", strings.Repeat("(", 5000)} {
			for _, after := range []string{"", "\x7f", " \x00", "\" |#\n", " 1a", "#|"} {
				check(t, before+c+after, nil, len(before), api.ErrNight)
			}
		}
	}
	last := strings.Repeat(" ", 1<<14-1)
	check(t, last+"\x1f", nil, 1<<14-1, api.ErrNight)
	check(t, "1a \""+last[4:]+"\u00e9"[:1], nil, 1<<14-1, api.ErrNight)
}

// P3.1: as many bytes as may be, and one more: that goes ahead of all else.
func TestSource(t *testing.T) {
	for _, s := range []string{" ", "\n", ";", "#||#", "; \x60\n"} {
		check(t, strings.Repeat(s, 1<<14/len(s)), nil, 0, api.OK)
		check(t, strings.Repeat(s, 1<<14/len(s)+1), nil, 0, api.ErrLong)
	}
	most := strings.Repeat("a ", 100) + strings.Repeat(" ", 1<<14-200)
	want := make([]api.Token, 100)
	for i := range want {
		want[i] = api.Token{K: api.TkSym, At: 2 * i, To: 2*i + 1, S: "a"}
	}
	check(t, most, want, 0, api.OK)
	check(t, most[:1<<14-1]+"b", append(want, api.Token{K: api.TkSym, At: 1<<14 - 1, To: 1 << 14, S: "b"}), 0, api.OK)
	check(t, most+" ", nil, 0, api.ErrLong)
	for _, s := range []string{" ", "1a ", "\x00", "#| ", `"`, "( "} {
		check(t, s+most, nil, 0, api.ErrLong)
		check(t, strings.Repeat(s, 100000), nil, 0, api.ErrLong)
	}
	check(t, most+"\x00", nil, 0, api.ErrLong)
}

// P3.1: as many tokens as may be, and what may stand behind them.
func TestMany(t *testing.T) {
	for _, part := range []string{"(", "a ", `""`, "#\\(", "',@"} {
		count := 1 << 12
		if part == "',@" {
			count /= 2
		}
		s := strings.Repeat(part, count)
		l, at, e := lex.Words(s)
		if len(l) != 1<<12 || at != 0 || e != api.OK {
			t.Fatalf("%q: %d tokens, %d, %d", part, len(l), at, int(e))
		}
		for _, after := range []string{" ", "\n\t\r", "; a", "#| ( |#", " ;\n #| #| |# |# "} {
			check(t, s+after, l, 0, api.OK)
		}
		for _, next := range []string{"(", ")", "#(", "'", ",", ",@", "\x60", ". ", "#t", "7", "a", "\"\"", "#\\a", "1152921504606846976", "1a", "+5", "|", "#\\ab", "#\\", "\"", "\"a", "\"\n\"", "\"\\q\"", "( \"", "( 1a", "( #|"} {
			check(t, s+" "+next, nil, len(s)+1, api.ErrLong)
			check(t, s+"#| |# ;\n"+next, nil, len(s)+8, api.ErrLong)
		}
		check(t, s+" #|", nil, len(s)+1, api.ErrEnd) // a comment is no token
		check(t, s+" #| ( #||#", nil, len(s)+1, api.ErrEnd)
		check(t, s+" ( \x7f", nil, len(s)+3, api.ErrNight)
		check(t, "#\\ "+s, nil, 0, api.ErrWord)
		check(t, s[:len(s)-len(part)]+" \"", nil, len(s)-len(part)+1, api.ErrEnd)
		check(t, s[:len(s)-len(part)]+" 1a (", nil, len(s)-len(part)+1, api.ErrWord)
	}
}

// P3.1: of the faults that are left, the first one in the text counts.
func TestFirstFault(t *testing.T) {
	faults := []struct {
		s string
		e api.Errno
	}{{"1a ", api.ErrWord}, {"1152921504606846976 ", api.ErrOver}, {`"\q" `, api.ErrWord}, {`#\ab `, api.ErrWord}, {"\"\n\" ", api.ErrWord}, {"a'b ", api.ErrWord}, {`#\ `, api.ErrWord}}
	ends := []string{`"a`, "#| a", `#\`, `"\`, "#| #| |#"}
	for _, x := range faults {
		for _, y := range faults {
			check(t, "(a "+x.s+y.s, nil, 3, x.e)
		}
		for _, end := range ends {
			check(t, "(a "+x.s+end, nil, 3, x.e)
			if !strings.HasSuffix(end, `#\`) { // this one would go on
				check(t, "(a "+end, nil, 3, api.ErrEnd)
			}
		}
	}
	check(t, "(a \" 1a 1152921504606846976 #\\ab", nil, 3, api.ErrEnd)
	check(t, "(a #| 1a 1152921504606846976 #\\ab \"", nil, 3, api.ErrEnd)
}

// P3.1: all short texts of what matters to the lexer, against the oracle.
func TestShortTexts(t *testing.T) {
	count := 0
	hold := func(s string) {
		want, at, e := oracle(s)
		check(t, s, want, at, e)
		count++
	}
	each(strings.Split("()'`,@#\\\";|.ax4+- \n", ""), 4, hold)
	each(strings.Split("#|;\n", ""), 7, hold)
	each(strings.Split("\\\"xn7f", ""), 6, func(s string) { hold(`"` + s + `"`) })
	each(strings.Split("x0a8f-", ""), 5, func(s string) { hold(`#\` + s) })
	each(strings.Split("-+.019a@", ""), 5, hold)
	if count < 200000 {
		t.Error("only so many texts:", count)
	}
	for b := range 256 {
		for c := range 256 {
			hold(string([]byte{byte(b), byte(c)}))
		}
	}
}

// P3.1: mixed texts, against the oracle.
func TestMixedTexts(t *testing.T) {
	good, bad := 0, 0
	for _, s := range texts(20000) {
		want, at, e := oracle(s)
		check(t, s, want, at, e)
		if e == api.OK {
			good++
		} else {
			bad++
		}
	}
	if good < 5000 || bad < 1000 {
		t.Error("without faults, with faults:", good, bad)
	}
}

// P3.2: All yields the tokens, as often as it is asked, up to where it is left; of a text with a fault, none.
func TestAll(t *testing.T) {
	for _, s := range append(texts(500), "", "a", strings.Repeat("(", 1<<12), strings.Repeat("(", 1<<12+1), strings.Repeat(" ", 1<<14+1), "a \x00", "a \"", "a 1b") {
		want, _, _ := oracle(s)
		if !slices.Equal(collect(s), want) {
			t.Errorf("All(%.80q) is %.300v", s, collect(s))
		}
		all := lex.All(s)
		for stop := range min(len(want), 5) {
			seen := 0
			for x := range all {
				if x != want[seen] {
					t.Fatal("another token", x, want[seen])
				}
				if seen == stop {
					break
				}
				seen++
			}
			if seen != stop {
				t.Fatal("left at", seen, "not", stop)
			}
		}
	}
}
