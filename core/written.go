package core

import (
	"shuttle/api"
	"shuttle/datum"
)

// names are the first elements of the lists as which expressions are written, by their kinds.
var names = [...]string{
	api.CoConst:  "const",
	api.CoLocal:  "local",
	api.CoGlobal: "global",
	api.CoSet:    "set",
	api.CoAssign: "assign",
	api.CoDefine: "define",
	api.CoIf:     "if",
	api.CoLambda: "lambda",
	api.CoSeq:    "seq",
	api.CoCall:   "call",
}

// more is that of a CoLambda whose last parameter takes all that is left.
const more = "lambda*"

// Datum is the list as which an expression is written.
func Datum(c api.Core) (api.Datum, api.Errno) {
	if e := loose(c); e != api.OK {
		return api.Datum{}, e
	}
	if !apart(c) {
		return api.Datum{}, api.ErrCore
	}
	d := written(c)
	if e := datum.Check(d); e != api.OK {
		return api.Datum{}, e
	}
	return datum.Clone(d), api.OK
}

// written shares the data of constants with the expression.
func written(c api.Core) api.Datum {
	l := []api.Datum{symbol(names[c.K])}
	switch c.K {
	case api.CoConst:
		l = append(l, c.D)
	case api.CoLocal, api.CoSet:
		l = append(l, number(c.N))
	case api.CoGlobal, api.CoAssign, api.CoDefine:
		l = append(l, symbol(c.S))
	case api.CoLambda:
		if c.N == 1 {
			l[0].S = more
		}
		var p []api.Datum
		for _, v := range c.P {
			p = append(p, number(int64(v)))
		}
		l = append(l, list(p))
	}
	for _, x := range c.L {
		l = append(l, written(x))
	}
	return list(l)
}

func symbol(s string) api.Datum    { return api.Datum{K: api.DSym, S: s} }
func number(n int64) api.Datum     { return api.Datum{K: api.DFix, N: n} }
func list(l []api.Datum) api.Datum { return api.Datum{K: api.DList, L: l} }

// Of is the expression that is written as a datum.
func Of(d api.Datum) (api.Core, api.Errno) {
	if e := datum.Check(d); e != api.OK {
		return api.Core{}, e
	}
	c, ok := parsed(datum.Clone(d))
	if !ok || !open(c) {
		return api.Core{}, api.ErrCore
	}
	return c, api.OK
}

// parsed takes each element as what it would have to be; whether there are as many as the kind has is left to open.
func parsed(d api.Datum) (api.Core, bool) {
	if d.K != api.DList || len(d.L) == 0 {
		return api.Core{}, false
	}
	c, ok := kind(d.L[0])
	l := d.L[1:]
	if ok && c.K != api.CoIf && c.K != api.CoSeq && c.K != api.CoCall {
		l, ok = begin(&c, l)
	}
	if !ok {
		return api.Core{}, false
	}
	for _, x := range l {
		part, ok := parsed(x)
		if !ok {
			return api.Core{}, false
		}
		c.L = append(c.L, part)
	}
	return c, true
}

// kind is an expression of which nothing is told but its kind.
func kind(d api.Datum) (api.Core, bool) {
	name, ok := text(d)
	if ok && name == more {
		return api.Core{K: api.CoLambda, N: 1}, true
	}
	for k, s := range names {
		if ok && s == name {
			return api.Core{K: k}, true
		}
	}
	return api.Core{}, false
}

// begin gives an expression the first element, which is no expression; it answers those behind it.
func begin(c *api.Core, l []api.Datum) ([]api.Datum, bool) {
	if len(l) == 0 {
		return nil, false
	}
	ok := true
	switch c.K {
	case api.CoConst:
		c.D = l[0]
	case api.CoLocal, api.CoSet:
		c.N = l[0].N
		ok = l[0].K == api.DFix
	case api.CoGlobal, api.CoAssign, api.CoDefine:
		c.S, ok = text(l[0])
	case api.CoLambda:
		c.P, ok = params(l[0])
	}
	return l[1:], ok
}

// text is that of a symbol without marks.
func text(d api.Datum) (string, bool) {
	return d.S, d.K == api.DSym && len(d.M) == 0
}

// params are the numbers of a list of variables; others, which may be too great for an int, are none.
func params(d api.Datum) ([]int, bool) {
	var l []int
	for _, x := range d.L {
		if x.K != api.DFix || !variable(x.N) {
			return nil, false
		}
		l = append(l, int(x.N))
	}
	return l, d.K == api.DList
}
