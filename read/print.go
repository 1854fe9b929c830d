package read

import (
	"strings"

	"shuttle/api"
	"shuttle/datum"
	"shuttle/lex"
)

// Print is the text of a datum, Lines the texts of several, each on a line of its own.
func Print(d api.Datum) (string, api.Errno) {
	if e := datum.Check(d); e != api.OK {
		return "", e
	}
	var b strings.Builder
	write(&b, d)
	return short(b.String())
}

func Lines(l ...api.Datum) (string, api.Errno) {
	if len(l) > api.MaxForms {
		return "", api.ErrLong
	}
	var b strings.Builder
	for _, d := range l {
		text, e := Print(d)
		if e != api.OK {
			return "", e
		}
		b.WriteString(text + "\n")
	}
	return short(b.String())
}

// short lets a text through that isn't too long to be read.
func short(s string) (string, api.Errno) {
	if len(s) > api.MaxSource {
		return "", api.ErrLong
	}
	return s, api.OK
}

// write appends the text of a valid datum.
func write(b *strings.Builder, d api.Datum) {
	first := opening(d)
	put(b, first)
	switch first.K {
	case api.TkOpen, api.TkVec:
		row(b, d.L)
		if len(d.T) > 0 {
			b.WriteByte(' ')
			put(b, api.Token{K: api.TkDot})
			b.WriteByte(' ')
			row(b, d.T)
		}
		put(b, api.Token{K: api.TkClose})
	case api.TkQuote, api.TkQuasi, api.TkComma, api.TkSplice:
		write(b, d.L[1])
	}
}

// row appends the texts of data, with a space between two.
func row(b *strings.Builder, l []api.Datum) {
	for i, d := range l {
		if i > 0 {
			b.WriteByte(' ')
		}
		write(b, d)
	}
}

func put(b *strings.Builder, t api.Token) {
	text, _ := lex.Text(t) // a valid datum has valid tokens only
	b.WriteString(text)
}

// opening is the token with which the text of a datum begins.
func opening(d api.Datum) api.Token {
	switch d.K {
	case api.DList:
		if len(d.L) == 2 && d.L[0].K == api.DSym && wordKind(d.L[0].S) != 0 {
			return api.Token{K: wordKind(d.L[0].S)}
		}
		return api.Token{K: api.TkOpen}
	case api.DDot:
		return api.Token{K: api.TkOpen}
	case api.DVec:
		return api.Token{K: api.TkVec}
	}
	return api.Token{K: tokenKind(d.K), N: d.N, S: d.S}
}
