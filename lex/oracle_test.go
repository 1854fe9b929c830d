package lex_test

import (
	"math/big"
	"regexp"
	"strconv"
	"strings"

	"shuttle/api"
	"shuttle/lex"
)

// A lexer of regular expressions, against which the tests hold the package, and the texts that they go through.

var (
	nightly  = regexp.MustCompile(`[^\t\n\r -~]`)
	blanks   = regexp.MustCompile(`^[\t\n\r ]+`)
	remark   = regexp.MustCompile(`^;[^\n]*`)
	brackets = regexp.MustCompile(`#\||\|#`)
	marks    = regexp.MustCompile("^(#\\(|,@|[()'`,])")
	str      = regexp.MustCompile(`(?s)^"([^"\\]|\\.)*"`)
	strOK    = regexp.MustCompile(`^"([ !#-[\]-~]|\\[nt\\"]|\\x[0-7][0-9a-f])*"$`)
	char     = regexp.MustCompile(`(?s)^#\\([a-z][a-z0-9]*|.)`)
	charOK   = regexp.MustCompile(`^#\\(space|newline|tab|nul|x[0-7][0-9a-f]|[!-~])$`)
	other    = regexp.MustCompile(`^[^()";\t\n\r ]+`)
	number   = regexp.MustCompile(`^[-+]?[0-9]`)
	numberOK = regexp.MustCompile(`^(0|-?[1-9][0-9]*)$`)
	symOK    = regexp.MustCompile(`^([a-zA-Z!$%&*/:<=>?^_~][a-zA-Z!$%&*/:<=>?^_~0-9+.@-]{0,31}|\+|-|\.\.\.)$`)
)

// oracle is what Words has to answer.
func oracle(s string) ([]api.Token, int, api.Errno) {
	if len(s) > 1<<14 {
		return nil, 0, api.ErrLong
	}
	// A character of a regular expression is a rune, but one of the language is a byte.
	wide := make([]rune, len(s))
	for i := range len(s) {
		wide[i] = rune(s[i])
	}
	if i := nightly.FindStringIndex(string(wide)); i != nil {
		return nil, len([]rune(string(wide)[:i[0]])), api.ErrNight
	}
	var l []api.Token
	for at := 0; at < len(s); {
		rest := s[at:]
		if m := blanks.FindString(rest) + remark.FindString(rest); m != "" {
			at += len(m)
			continue
		}
		if strings.HasPrefix(rest, "#|") {
			size := nested(rest)
			if size < 0 {
				return nil, at, api.ErrEnd
			}
			at += size
			continue
		}
		if len(l) == 1<<12 {
			return nil, at, api.ErrLong
		}
		t, text, e := first(rest)
		if e != api.OK {
			return nil, at, e
		}
		t.At, t.To = at, at+len(text)
		l = append(l, t)
		at = t.To
	}
	return l, 0, api.OK
}

// nested is the length of the comment with which s begins, or -1.
func nested(s string) int {
	depth := 0
	for _, i := range brackets.FindAllStringIndex(s, -1) {
		depth += map[string]int{"#|": 1, "|#": -1}[s[i[0]:i[1]]]
		if depth == 0 {
			return i[1]
		}
	}
	return -1
}

// first is the token with which s begins, and its text.
func first(s string) (api.Token, string, api.Errno) {
	if m := marks.FindString(s); m != "" {
		return api.Token{K: map[string]int{"(": 1, ")": 2, "#(": 3, "'": 4, "`": 5, ",": 6, ",@": 7}[m]}, m, api.OK
	}
	if s[0] == '"' {
		m := str.FindString(s)
		if m == "" {
			return api.Token{}, "", api.ErrEnd
		}
		text, err := strconv.Unquote(m) // what strOK lets through is a string of Go, too
		if !strOK.MatchString(m) || err != nil || len(text) > 256 {
			return api.Token{}, "", api.ErrWord
		}
		return api.Token{K: 12, S: text}, m, api.OK
	}
	if strings.HasPrefix(s, `#\`) {
		m := char.FindString(s)
		if m == "" {
			return api.Token{}, "", api.ErrEnd
		}
		if !charOK.MatchString(m) {
			return api.Token{}, "", api.ErrWord
		}
		return api.Token{K: 11, N: numbered(m[2:])}, m, api.OK
	}
	m := other.FindString(s)
	t, e := sense(m)
	return t, m, e
}

func numbered(name string) int64 {
	if n, there := map[string]int64{"space": 32, "newline": 10, "tab": 9, "nul": 0}[name]; there {
		return n
	}
	if len(name) == 3 {
		n, err := strconv.ParseInt(name[1:], 16, 64)
		if err != nil {
			panic(err)
		}
		return n
	}
	return int64(name[0])
}

// sense is the token that a run is.
func sense(m string) (api.Token, api.Errno) {
	switch {
	case m == "#t", m == "#f":
		return api.Token{K: 10, N: int64(strings.Index("ft", m[1:]))}, api.OK
	case m == ".":
		return api.Token{K: 8}, api.OK
	case numberOK.MatchString(m):
		n, _ := new(big.Int).SetString(m, 10)
		if n.Cmp(big.NewInt(-1<<60)) < 0 || n.Cmp(big.NewInt(1<<60-1)) > 0 {
			return api.Token{}, api.ErrOver
		}
		return api.Token{K: 9, N: n.Int64()}, api.OK
	case !number.MatchString(m) && symOK.MatchString(m):
		return api.Token{K: 13, S: m}, api.OK
	}
	return api.Token{}, api.ErrWord
}

// each goes through all texts of at most so many of these parts.
func each(parts []string, most int, see func(s string)) {
	var add func(s string, left int)
	add = func(s string, left int) {
		see(s)
		if left > 0 {
			for _, p := range parts {
				add(s+p, left-1)
			}
		}
	}
	add("", most)
}

// picker picks numbers from 0 on, below another; from the same seed the same ones.
func picker(seed uint64) func(below int) int {
	return func(below int) int {
		seed = seed*6364136223846793005 + 1442695040888963407
		return int(seed>>33) % below
	}
}

// texts are texts of mixed parts, most of them without faults.
func texts(count int) []string {
	parts := []string{
		"(", ")", "#(", "'", "`", ",", ",@", " . ", "#t ", "#f)", "a ", "set-car! ", "... ", "+ ", "- ", "-5 ", "0 ", "1152921504606846975 ", "12(",
		`"" `, `"a b"`, `"\\\"\n\t"`, `"\x00\x7f"`, `"\x0d;#|"`, `#\space `, `#\newline `, `#\tab `, `#\nul `, `#\x41 `, `#\a `, `#\x `, `#\( `, `#\; `, `#\\ `, `#\" `, `#\A`, `#\1 `,
		" ", "\n", "\t", "\r", "; a (\" #|\n", ";\n", "#| a |# ", "#||#", "#| #| |# |#", "#|;|#", "#|\"|#",
	}
	faults := []string{"1a ", "+5 ", "01 ", "-0 ", "#x ", ".. ", "a'b ", "1152921504606846976 ", "\"\n\"", `"\q"`, `#\ab `, `#\ `, "#|", `"`, "\x01", "\x7f", "\u00e9", "| ", "[", "a"}
	pick := picker(1)
	l := make([]string, count)
	for i := range l {
		var b strings.Builder
		for range pick(20) {
			b.WriteString(parts[pick(len(parts))])
			if pick(60) == 0 {
				b.WriteString(faults[pick(len(faults))])
			}
		}
		l[i] = b.String()
	}
	return l
}

// tokens are tokens of every kind and on the edges, without places; each call makes them anew.
func tokens() []api.Token {
	l := []api.Token{
		{K: api.TkOpen}, {K: api.TkClose}, {K: api.TkVec}, {K: api.TkQuote}, {K: api.TkQuasi}, {K: api.TkComma}, {K: api.TkSplice}, {K: api.TkDot},
		{K: api.TkFix}, {K: api.TkFix, N: 7}, {K: api.TkFix, N: -7}, {K: api.TkFix, N: 1<<60 - 1}, {K: api.TkFix, N: -1 << 60},
		{K: api.TkBool}, {K: api.TkBool, N: 1},
		{K: api.TkStr}, {K: api.TkStr, S: "a b"}, {K: api.TkStr, S: strings.Repeat("s", 256)}, {K: api.TkStr, S: strings.Repeat("\x01", 256)}, {K: api.TkStr, S: strings.Repeat("\\", 256)}, {K: api.TkStr, S: "; #| |# (\") #\\a"},
		{K: api.TkSym, S: "a"}, {K: api.TkSym, S: "+"}, {K: api.TkSym, S: "-"}, {K: api.TkSym, S: "..."}, {K: api.TkSym, S: "a.b@1+-"}, {K: api.TkSym, S: strings.Repeat("Y", 32)},
	}
	for n := range int64(128) {
		l = append(l, api.Token{K: api.TkChar, N: n}, api.Token{K: api.TkStr, S: string([]byte{byte(n)})}, api.Token{K: api.TkStr, S: string([]byte{'a', byte(n), 'x', byte(n)})})
	}
	return l
}

// wrong are tokens that have no text; each call makes them anew.
func wrong() []api.Token {
	l := []api.Token{
		{}, {N: 1}, {S: "a"}, {K: -1}, {K: -1 << 62}, {K: 14}, {K: 14, S: "a"}, {K: 20}, {K: 1 << 32, S: "a"}, {K: 1<<32 + api.TkOpen},
		{K: api.TkFix, N: 1 << 60}, {K: api.TkFix, N: -1<<60 - 1}, {K: api.TkFix, N: 1<<63 - 1}, {K: api.TkFix, N: -1 << 63}, {K: api.TkFix, N: 1, S: "1"}, {K: api.TkFix, S: "a"},
		{K: api.TkBool, N: 2}, {K: api.TkBool, N: -1}, {K: api.TkBool, N: 1 << 32}, {K: api.TkBool, N: 1, S: "#t"}, {K: api.TkBool, S: "a"},
		{K: api.TkChar, N: 128}, {K: api.TkChar, N: -1}, {K: api.TkChar, N: 256 + 'a'}, {K: api.TkChar, N: 1<<32 + 'a'}, {K: api.TkChar, N: 'a', S: "a"},
		{K: api.TkStr, S: "\x80"}, {K: api.TkStr, S: "a\xff"}, {K: api.TkStr, S: "\u00e9"}, {K: api.TkStr, S: strings.Repeat("s", 257)}, {K: api.TkStr, S: "a", N: 1}, {K: api.TkStr, N: -1},
		{K: api.TkSym}, {K: api.TkSym, S: "1"}, {K: api.TkSym, S: "-1"}, {K: api.TkSym, S: "."}, {K: api.TkSym, S: ".."}, {K: api.TkSym, S: "#t"}, {K: api.TkSym, S: "a b"}, {K: api.TkSym, S: "a\n"}, {K: api.TkSym, S: "\u00e9"}, {K: api.TkSym, S: strings.Repeat("Y", 33)}, {K: api.TkSym, S: "a", N: 1},
	}
	for k := api.TkOpen; k <= api.TkDot; k++ {
		l = append(l, api.Token{K: k, N: 1}, api.Token{K: k, N: -1}, api.Token{K: k, N: 1 << 32}, api.Token{K: k, S: "a"}, api.Token{K: k, S: "\x00"})
	}
	return l
}

// placed are tokens in other places.
func placed(l []api.Token, by int) []api.Token {
	moved := make([]api.Token, len(l))
	for i, t := range l {
		t.At += by
		t.To += by
		moved[i] = t
	}
	return moved
}

// bare are tokens without their places.
func bare(l []api.Token) []api.Token {
	moved := placed(l, 0)
	for i := range moved {
		moved[i].At, moved[i].To = 0, 0
	}
	return moved
}

func collect(s string) []api.Token {
	var l []api.Token
	for t := range lex.All(s) {
		l = append(l, t)
	}
	return l
}
