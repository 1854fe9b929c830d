package lex

import (
	"strings"

	"shuttle/api"
	"shuttle/datum"
	"shuttle/fix"
)

// scan is the token that begins at an index of a text.
func scan(s string, at int) (api.Token, api.Errno) {
	var t api.Token
	size, fits, wrong := 0, false, api.ErrWord
	switch rest := s[at:]; {
	case marked(rest) != 0:
		t.K, fits = marked(rest), true
		size = len(mark(t.K))
	case rest[0] == '"':
		if size = quoted(rest); size == 0 {
			wrong = api.ErrEnd
			goto invalid
		}
		t.K = api.TkStr
		t.S, fits = unquote(rest[1 : size-1])
	case rest == opening:
		wrong = api.ErrEnd
		goto invalid
	case strings.HasPrefix(rest, opening):
		size = spelled(rest)
		t.K = api.TkChar
		t.N, fits = character(rest[len(opening):size])
	default:
		size = run(rest)
		t, wrong = meaning(rest[:size])
		fits = wrong == api.OK
	}
	if !fits {
		goto invalid
	}
	t.At, t.To = at, at+size
	return t, api.OK
invalid:
	return api.Token{}, wrong
}

// marked is the kind of the mark with which a text begins, 0 if it begins with none.
func marked(s string) int {
	// Of two that begin alike, the longer one comes first.
	for _, kind := range []int{api.TkOpen, api.TkClose, api.TkVec, api.TkQuote, api.TkQuasi, api.TkSplice, api.TkComma} {
		if strings.HasPrefix(s, mark(kind)) {
			return kind
		}
	}
	return 0
}

// quoted is the length of the string with which a text begins, 0 if the text ends within it.
func quoted(s string) int {
	for i := 1; i < len(s); i++ {
		switch s[i] {
		case '\\':
			i++
		case '"':
			return i + 1
		}
	}
	return 0
}

// unquote is the characters that the inside of a string denotes, if all of it denotes any.
func unquote(inside string) (string, bool) {
	var l []byte
	for i := 0; i < len(inside); {
		c, size, fits := inside[i], 1, inside[i] >= ' '
		if c == '\\' {
			c, size, fits = unescape(inside[i:])
		}
		if !fits {
			return "", false
		}
		l = append(l, c)
		i += size
	}
	return string(l), len(l) <= api.MaxText
}

// unescape is the character that the escape with which a text begins denotes, if it denotes one, and the escape's length.
func unescape(s string) (c byte, size int, fits bool) {
	for _, c := range []byte{'\n', '\t', '\\', '"'} {
		if strings.HasPrefix(s, escape(c)) {
			return c, len(escape(c)), true
		}
	}
	size = min(len(s), 1+coded)
	c, fits = decode(s[1:size])
	return c, size, fits
}

// spelled is the length of the character with which a text begins, of which opening is not all.
func spelled(s string) int {
	size := len(opening) + 1
	if lower(s[len(opening)]) {
		for size < len(s) && (lower(s[size]) || digit(s[size])) {
			size++
		}
	}
	return size
}

// character is the number of the character that is spelled so, if there is one.
func character(s string) (int64, bool) {
	for _, c := range []byte{' ', '\n', '\t', 0} {
		if s == name(c) {
			return int64(c), true
		}
	}
	if len(s) == 1 {
		return int64(s[0]), !blank(s[0])
	}
	c, fits := decode(s)
	return int64(c), fits
}

// run is the length of the run with which a text begins.
func run(s string) int {
	size := 1
	for size < len(s) && !delimits(s[size]) {
		size++
	}
	return size
}

// meaning is the token that a run is, without its place.
func meaning(s string) (api.Token, api.Errno) {
	switch {
	case s == mark(api.TkDot):
		return api.Token{K: api.TkDot}, api.OK
	case s == boolean(0):
		return api.Token{K: api.TkBool}, api.OK
	case s == boolean(1):
		return api.Token{K: api.TkBool, N: 1}, api.OK
	case numeric(s):
		n, e := fix.Parse(s)
		if e == api.ErrForm {
			e = api.ErrWord
		}
		return api.Token{K: api.TkFix, N: n}, e
	case datum.Symbol(s):
		return api.Token{K: api.TkSym, S: s}, api.OK
	}
	return api.Token{}, api.ErrWord
}

// numeric tells whether a run can only be a number.
func numeric(s string) bool {
	if len(s) > 1 && (s[0] == '-' || s[0] == '+') {
		s = s[1:]
	}
	return digit(s[0])
}

func delimits(c byte) bool {
	return blank(c) || c == '(' || c == ')' || c == '"' || c == ';'
}

func digit(c byte) bool { return '0' <= c && c <= '9' }

func lower(c byte) bool { return 'a' <= c && c <= 'z' }
