package lex

import (
	"strings"

	"shuttle/api"
	"shuttle/datum"
	"shuttle/fix"
)

// Text is the text of a token, Join the texts of several, with a space between two.
func Text(t api.Token) (string, api.Errno) {
	if always := mark(t.K); always != "" {
		if t.N != 0 || t.S != "" {
			return "", api.ErrWord
		}
		return always, api.OK
	}
	if datum.Check(api.Datum{K: datumKind(t.K), N: t.N, S: t.S}) != api.OK {
		return "", api.ErrWord
	}
	switch t.K {
	case api.TkFix:
		return fix.Text(t.N)
	case api.TkBool:
		return boolean(t.N), api.OK
	case api.TkChar:
		return opening + spell(byte(t.N)), api.OK
	case api.TkStr:
		return quote(t.S), api.OK
	}
	return t.S, api.OK
}

func Join(l ...api.Token) (string, api.Errno) {
	if len(l) > api.MaxTokens {
		return "", api.ErrLong
	}
	texts := make([]string, len(l))
	for i, t := range l {
		text, e := Text(t)
		if e != api.OK {
			return "", e
		}
		texts[i] = text
	}
	all := strings.Join(texts, " ")
	if len(all) > api.MaxSource {
		return "", api.ErrLong
	}
	return all, api.OK
}

// mark is the text that all tokens of a kind have, "" for a kind whose texts differ.
func mark(kind int) string {
	switch kind {
	case api.TkOpen:
		return "("
	case api.TkClose:
		return ")"
	case api.TkVec:
		return "#("
	case api.TkQuote:
		return "'"
	case api.TkQuasi:
		return "`"
	case api.TkComma:
		return ","
	case api.TkSplice:
		return ",@"
	case api.TkDot:
		return "."
	}
	return ""
}

// datumKind is the kind of the data that tokens of a kind are, 0 if they are none.
func datumKind(kind int) int {
	switch kind {
	case api.TkFix:
		return api.DFix
	case api.TkBool:
		return api.DBool
	case api.TkChar:
		return api.DChar
	case api.TkStr:
		return api.DStr
	case api.TkSym:
		return api.DSym
	}
	return 0
}

func boolean(n int64) string {
	if n == 0 {
		return "#f"
	}
	return "#t"
}

// opening is what the text of every character begins with.
const opening = `#\`

// spell is what follows it.
func spell(c byte) string {
	switch {
	case name(c) != "":
		return name(c)
	case printed(c):
		return string([]byte{c})
	}
	return encode(c)
}

// name is the name of a character that has one.
func name(c byte) string {
	switch c {
	case ' ':
		return "space"
	case '\n':
		return "newline"
	case '\t':
		return "tab"
	case 0:
		return "nul"
	}
	return ""
}

// quote is the text of a string.
func quote(s string) string {
	text := []byte{'"'}
	for i := range len(s) {
		switch c := s[i]; {
		case escape(c) != "":
			text = append(text, escape(c)...)
		case printed(c):
			text = append(text, c)
		default:
			text = append(text, `\`+encode(c)...)
		}
	}
	return string(append(text, '"'))
}

// escape is the escape in a string of a character that has one of its own.
func escape(c byte) string {
	switch c {
	case '\n':
		return `\n`
	case '\t':
		return `\t`
	case '\\':
		return `\\`
	case '"':
		return `\"`
	}
	return ""
}

// encode is the code of a character: x and the two digits of its number; decode the character of such a code.
func encode(c byte) string {
	return string([]byte{'x', digits[c/16], digits[c%16]})
}

func decode(s string) (byte, bool) {
	if len(s) != coded || s[0] != 'x' {
		return 0, false
	}
	high, low := strings.IndexByte(digits, s[1]), strings.IndexByte(digits, s[2])
	if high < 0 || high > 7 || low < 0 { // no character has a number above 127
		return 0, false
	}
	return byte(16*high + low), true
}

const (
	coded  = 3 // bytes of a code
	digits = "0123456789abcdef"
)

// printed tells whether a character is a space or something to be seen.
func printed(c byte) bool { return ' ' <= c && c <= '~' }
