package expand

import "shuttle/api"

func (t *translation) lambda(l []api.Datum, at place) (api.Core, api.Errno) {
	if len(l) < 2 {
		return wrong(api.ErrSyntax)
	}
	ids, more := parameters(l[0])
	if !distinct(ids) {
		return wrong(api.ErrSyntax)
	}
	c, e := t.procedure(ids, at, func(at place, _ []int) (api.Core, api.Errno) { return t.body(l[1:], at) })
	if e == api.OK && more {
		c.N = 1
	}
	return c, e
}

// parameters are what should be symbols in the parameters of a lambda, and whether the last one takes all that is left.
func parameters(d api.Datum) ([]api.Datum, bool) {
	switch d.K {
	case api.DList:
		return d.L, false
	case api.DDot:
		return append(d.L[:len(d.L):len(d.L)], d.T[0]), true
	}
	return []api.Datum{d}, true
}

// procedure is a CoLambda with a new variable for each identifier; inside is told where its element stands, and these.
func (t *translation) procedure(ids []api.Datum, at place, inside func(at place, vars []int) (api.Core, api.Errno)) (api.Core, api.Errno) {
	vars := make([]int, len(ids))
	for i := range vars {
		vars[i] = t.variable()
	}
	in := at.inside()
	for i, id := range ids {
		var e api.Errno
		if in.scope, e = t.scopes.Extend(in.scope, id, int64(vars[i])); e != api.OK {
			return wrong(e)
		}
	}
	c, e := inside(in, vars)
	return join(api.Core{K: api.CoLambda, P: vars}, []api.Core{c}, e)
}

// call is a CoCall of a procedure that has been translated after its arguments.
func call(procedure api.Core, args []api.Core, e api.Errno) (api.Core, api.Errno) {
	return join(api.Core{K: api.CoCall, L: []api.Core{procedure}}, args, e)
}

func (t *translation) let(l []api.Datum, at place) (api.Core, api.Errno) {
	ids, values, ok := bindings(l)
	if !ok || !distinct(ids) {
		return wrong(api.ErrSyntax)
	}
	args, e := t.all(values, at.inside())
	if e != api.OK {
		return wrong(e)
	}
	c, e := t.procedure(ids, at, func(at place, _ []int) (api.Core, api.Errno) { return t.body(l[1:], at) })
	return call(c, args, e)
}

// letInTurn is the translation of a let*.
func (t *translation) letInTurn(l []api.Datum, at place) (api.Core, api.Errno) {
	ids, values, ok := bindings(l)
	if !ok {
		return wrong(api.ErrSyntax)
	}
	return t.inTurn(ids, values, l[1:], at.inside())
}

// inTurn binds one identifier after the other, each in the scope of those ahead of it.
func (t *translation) inTurn(ids, values, body []api.Datum, at place) (api.Core, api.Errno) {
	if len(ids) == 0 {
		return t.body(body, at)
	}
	args, e := t.all(values[:1], at)
	if e != api.OK {
		return wrong(e)
	}
	c, e := t.procedure(ids[:1], at, func(at place, _ []int) (api.Core, api.Errno) {
		return t.inTurn(ids[1:], values[1:], body, at)
	})
	return call(c, args, e)
}

func (t *translation) letrec(l []api.Datum, at place) (api.Core, api.Errno) {
	ids, values, ok := bindings(l)
	if !ok || !distinct(ids) {
		return wrong(api.ErrSyntax)
	}
	c, e := t.procedure(ids, at, func(at place, vars []int) (api.Core, api.Errno) {
		parts, e := t.all(values, at)
		if e != api.OK {
			return wrong(e)
		}
		for i, v := range vars {
			parts[i] = api.Core{K: api.CoSet, N: int64(v), L: []api.Core{parts[i]}}
		}
		body, e := t.body(l[1:], at)
		return join(api.Core{K: api.CoSeq}, append(parts, body), e)
	})
	args := make([]api.Core, len(ids))
	for i := range args {
		args[i] = no()
	}
	return call(c, args, e)
}

func (t *translation) letSyntax(l []api.Datum, at place) (api.Core, api.Errno) {
	ids, values, ok := bindings(l)
	if !ok || !distinct(ids) {
		return wrong(api.ErrSyntax)
	}
	macros := make([]*macro, len(ids))
	for i, s := range values {
		var e api.Errno
		if macros[i], e = t.definition(s, at.scope); e != api.OK {
			return wrong(e)
		}
	}
	in := at.inside()
	for i, id := range ids {
		t.locals = append(t.locals, macros[i])
		var e api.Errno
		if in.scope, e = t.scopes.Extend(in.scope, id, -int64(len(t.locals))); e != api.OK {
			return wrong(e)
		}
	}
	return t.body(l[1:], in)
}

// bindings are the identifiers and what they are to be bound to in ((x e) ..) b .., if that is its form, with one b at least.
func bindings(l []api.Datum) ([]api.Datum, []api.Datum, bool) {
	if len(l) < 2 || l[0].K != api.DList {
		return nil, nil, false
	}
	var ids, values []api.Datum
	for _, d := range l[0].L {
		if d.K != api.DList || len(d.L) != 2 || d.L[0].K != api.DSym {
			return nil, nil, false
		}
		ids = append(ids, d.L[0])
		values = append(values, d.L[1])
	}
	return ids, values, true
}

// identifier is a symbol that can be compared. Behind its marks there are zeros: no mark is 0.
type identifier struct {
	text  string
	marks [api.MaxMarks]int
}

// distinct tells whether all of these are symbols, and all different.
func distinct(l []api.Datum) bool {
	seen := map[identifier]struct{}{}
	for _, d := range l {
		id := identifier{text: d.S}
		copy(id.marks[:], d.M)
		if _, twice := seen[id]; twice || d.K != api.DSym {
			return false
		}
		seen[id] = struct{}{}
	}
	return true
}
