package read

import "shuttle/api"

// atoms are the kinds of the data that are one token, and the kinds of these tokens.
var atoms = [...]struct{ datum, token int }{
	{api.DFix, api.TkFix},
	{api.DBool, api.TkBool},
	{api.DChar, api.TkChar},
	{api.DStr, api.TkStr},
	{api.DSym, api.TkSym},
}

// words are the kinds of the tokens that stand for a list of a word and the datum behind them, and that word.
var words = [...]struct {
	token int
	text  string
}{
	{api.TkQuote, "quote"},
	{api.TkQuasi, "quasiquote"},
	{api.TkComma, "unquote"},
	{api.TkSplice, "unquote-splicing"},
}

// datumKind is the kind of the data that tokens of a kind are, tokenKind the other way round; 0 if there is none.
func datumKind(token int) int {
	for _, a := range atoms {
		if a.token == token {
			return a.datum
		}
	}
	return 0
}

func tokenKind(datum int) int {
	for _, a := range atoms {
		if a.datum == datum {
			return a.token
		}
	}
	return 0
}

// word is the word of tokens of a kind, "" if they have none; wordKind the kind of the tokens of a word, 0 if it has none.
func word(token int) string {
	for _, w := range words {
		if w.token == token {
			return w.text
		}
	}
	return ""
}

func wordKind(text string) int {
	for _, w := range words {
		if w.text == text {
			return w.token
		}
	}
	return 0
}
