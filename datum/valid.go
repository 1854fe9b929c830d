package datum

import (
	"strings"

	"shuttle/api"
	"shuttle/fix"
)

// Check is OK for a valid datum, and else what is wrong with the first of its nodes that makes it invalid.
func Check(d api.Datum) api.Errno {
	_, _, wrong := measure(d)
	return wrong
}

// measure counts the nodes of a datum and finds the depth of the deepest.
// It ends at the first wrong node, since what follows may have no end.
func measure(d api.Datum) (count, deepest int, wrong api.Errno) {
	walk(d, func(node api.Datum, depth int) bool {
		switch {
		case depth > api.MaxDeep:
			wrong = api.ErrDeep
		case count == api.MaxNodes:
			wrong = api.ErrLong
		case !proper(node):
			wrong = api.ErrDatum
		}
		count++
		deepest = max(deepest, depth)
		return wrong == api.OK
	})
	if wrong != api.OK {
		return 0, 0, wrong
	}
	return count, deepest, api.OK
}

// proper tells whether a datum is valid by itself.
func proper(d api.Datum) bool {
	fits := false
	rest := d // what remains when the fields of its kind are taken out, which has to be nothing
	switch d.K {
	case api.DFix:
		fits, rest.N = fix.In(d.N), 0
	case api.DBool:
		fits, rest.N = d.N == 0 || d.N == 1, 0
	case api.DChar:
		fits, rest.N = 0 <= d.N && d.N < characters, 0
	case api.DStr:
		fits, rest.S = text(d.S), ""
	case api.DSym:
		fits, rest.S, rest.M = Symbol(d.S) && marks(d.M), "", nil
	case api.DList, api.DVec:
		fits, rest.L = true, nil
	case api.DDot:
		fits, rest.L, rest.T = len(d.L) > 0 && tail(d.T), nil, nil
	}
	return fits && rest.N == 0 && rest.S == "" && len(rest.M)+len(rest.L)+len(rest.T) == 0
}

// characters is the number of characters: they are numbered from 0.
const characters = 128

func text(s string) bool {
	if len(s) > api.MaxText {
		return false
	}
	for i := range len(s) {
		if s[i] >= characters {
			return false
		}
	}
	return true
}

func marks(l []int) bool {
	if len(l) > api.MaxMarks {
		return false
	}
	for _, mark := range l {
		if mark < 1 || mark > api.MaxMark {
			return false
		}
	}
	return true
}

// tail tells whether an improper list may end so: one that goes on in another list would be that longer list.
func tail(l []api.Datum) bool {
	return len(l) == 1 && l[0].K != api.DList && l[0].K != api.DDot
}

// Symbol tells whether a text is that of a symbol.
func Symbol(s string) bool {
	if s == "+" || s == "-" || s == "..." {
		return true
	}
	if s == "" || len(s) > api.MaxSym || !begins(s[0]) {
		return false
	}
	for i := range len(s) {
		if !continues(s[i]) {
			return false
		}
	}
	return true
}

func begins(c byte) bool {
	return 'a' <= c && c <= 'z' || 'A' <= c && c <= 'Z' || strings.IndexByte("!$%&*/:<=>?^_~", c) >= 0
}

func continues(c byte) bool {
	return begins(c) || '0' <= c && c <= '9' || strings.IndexByte("+-.@", c) >= 0
}
