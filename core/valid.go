package core

import (
	"maps"

	"shuttle/api"
	"shuttle/datum"
)

// Check is OK for an expression that is valid within these variables, and else what is wrong with the first of its nodes that makes it invalid.
func Check(c api.Core, within ...int) api.Errno {
	scope := variables{}
	scope.add(within)
	return check(c, scope, scope.has)
}

// loose is what Check would be if every CoLocal and CoSet were in its scope.
func loose(c api.Core) api.Errno {
	return check(c, variables{}, func(int) bool { return true })
}

// check ends at the first wrong node, since what follows may have no end.
func check(c api.Core, scope variables, known func(v int) bool) api.Errno {
	taken := maps.Clone(scope) // what no further CoLambda may bind
	count := 0
	for v := range visits(c, scope) {
		switch {
		case v.deep > api.MaxNest:
			return api.ErrDeep
		case count == api.MaxCore:
			return api.ErrLong
		case !proper(v.c) || uses(v.c) && !known(int(v.c.N)) || v.c.K == api.CoDefine && !v.top || taken.any(v.c.P):
			return api.ErrCore
		}
		taken.add(v.c.P)
		count++
	}
	return api.OK
}

// open tells whether an expression is valid within the variables that it has from outside.
func open(c api.Core) bool {
	return loose(c) == api.OK && apart(c)
}

// apart tells whether no CoLambda of an expression binds what it has from outside.
func apart(c api.Core) bool {
	free := outside(c)
	for v := range visits(c, variables{}) {
		if free.any(v.c.P) {
			return false
		}
	}
	return true
}

// outside are the variables of the CoLocals and CoSets that no CoLambda with this variable contains.
func outside(c api.Core) variables {
	scope, free := variables{}, variables{}
	for v := range visits(c, scope) {
		if uses(v.c) && !scope.has(int(v.c.N)) {
			free[int(v.c.N)] = struct{}{}
		}
	}
	return free
}

// uses tells whether a node is one that has to be in the scope of a variable.
func uses(c api.Core) bool {
	return c.K == api.CoLocal || c.K == api.CoSet
}

// proper tells whether an expression is valid by itself.
func proper(c api.Core) bool {
	fits, parts := false, 0
	rest := c // what remains when the fields of its kind are taken out, which has to be nothing
	rest.L = nil
	switch c.K {
	case api.CoConst:
		fits, rest.D = constant(c.D), api.Datum{}
	case api.CoLocal:
		fits, rest.N = variable(c.N), 0
	case api.CoSet:
		fits, rest.N, parts = variable(c.N), 0, 1
	case api.CoGlobal:
		fits, rest.S = datum.Symbol(c.S), ""
	case api.CoAssign, api.CoDefine:
		fits, rest.S, parts = datum.Symbol(c.S), "", 1
	case api.CoIf:
		fits, parts = true, 3
	case api.CoLambda:
		fits, rest.P, rest.N, parts = parameters(c.P, c.N), nil, 0, 1
	case api.CoSeq, api.CoCall:
		fits, parts = true, max(1, len(c.L))
	}
	return fits && len(c.L) == parts && rest.N == 0 && rest.S == "" && len(rest.P) == 0 && zero(rest.D)
}

func variable(n int64) bool {
	return 1 <= n && n <= api.MaxVar
}

func parameters(l []int, more int64) bool {
	if len(l) > api.MaxParams || more < 0 || more > 1 || more == 1 && len(l) == 0 {
		return false
	}
	seen := variables{}
	for _, v := range l {
		if !variable(int64(v)) || seen.has(v) {
			return false
		}
		seen[v] = struct{}{}
	}
	return true
}

func constant(d api.Datum) bool {
	return datum.Check(d) == api.OK && !marked(d)
}

func marked(d api.Datum) bool {
	if len(d.M) > 0 {
		return true
	}
	for _, l := range [][]api.Datum{d.L, d.T} {
		for _, x := range l {
			if marked(x) {
				return true
			}
		}
	}
	return false
}

func zero(d api.Datum) bool {
	return d.K == 0 && d.N == 0 && d.S == "" && len(d.M)+len(d.L)+len(d.T) == 0
}
