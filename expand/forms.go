package expand

import "shuttle/api"

func (t *translation) quote(l []api.Datum, at place) (api.Core, api.Errno) {
	if len(l) != 1 {
		return wrong(api.ErrSyntax)
	}
	return constant(l[0]), api.OK
}

// choice is the translation of an if.
func (t *translation) choice(l []api.Datum, at place) (api.Core, api.Errno) {
	if len(l) != 2 && len(l) != 3 {
		return wrong(api.ErrSyntax)
	}
	parts, e := t.all(l, at.inside())
	if len(l) == 2 {
		parts = append(parts, no())
	}
	return join(api.Core{K: api.CoIf}, parts, e)
}

func (t *translation) set(l []api.Datum, at place) (api.Core, api.Errno) {
	if len(l) != 2 || l[0].K != api.DSym {
		return wrong(api.ErrSyntax)
	}
	c, e := t.name(l[0], at.scope)
	if e != api.OK {
		return wrong(e)
	}
	if c.K == api.CoLocal {
		c.K = api.CoSet
	} else {
		c.K = api.CoAssign
	}
	parts, e := t.all(l[1:], at.inside())
	return join(c, parts, e)
}

// begin has the forms within it where it stands itself.
func (t *translation) begin(l []api.Datum, at place) (api.Core, api.Errno) {
	if len(l) == 0 {
		return wrong(api.ErrSyntax)
	}
	return t.body(l, at)
}

func (t *translation) and(l []api.Datum, at place) (api.Core, api.Errno) {
	if len(l) == 0 {
		return truth(1), api.OK
	}
	first, e := t.translate(l[0], at.inside())
	if e != api.OK || len(l) == 1 {
		return first, e
	}
	rest, e := t.and(l[1:], at)
	return join(api.Core{K: api.CoIf}, []api.Core{first, rest, no()}, e)
}

func (t *translation) or(l []api.Datum, at place) (api.Core, api.Errno) {
	if len(l) == 0 {
		return no(), api.OK
	}
	if len(l) == 1 {
		return t.translate(l[0], at.inside())
	}
	return t.either(l[0], at, func() (api.Core, api.Errno) { return t.or(l[1:], at) })
}

// either is the value of a form, unless that is false; then it is that of the rest, which is translated last.
func (t *translation) either(d api.Datum, at place, rest func() (api.Core, api.Errno)) (api.Core, api.Errno) {
	value, e := t.translate(d, at.inside())
	if e != api.OK {
		return wrong(e)
	}
	v := t.variable()
	other, e := rest()
	if e != api.OK {
		return wrong(e)
	}
	kept := local(int64(v))
	choice := api.Core{K: api.CoIf, L: []api.Core{kept, kept, other}}
	procedure := api.Core{K: api.CoLambda, P: []int{v}, L: []api.Core{choice}}
	return api.Core{K: api.CoCall, L: []api.Core{procedure, value}}, api.OK
}

func (t *translation) when(l []api.Datum, at place) (api.Core, api.Errno) {
	if len(l) < 2 {
		return wrong(api.ErrSyntax)
	}
	test, e := t.translate(l[0], at.inside())
	if e != api.OK {
		return wrong(e)
	}
	body, e := t.body(l[1:], at.inside())
	return join(api.Core{K: api.CoIf}, []api.Core{test, body, no()}, e)
}

func (t *translation) unless(l []api.Datum, at place) (api.Core, api.Errno) {
	c, e := t.when(l, at)
	if e != api.OK {
		return wrong(e)
	}
	c.L[1], c.L[2] = c.L[2], c.L[1]
	return c, api.OK
}

func (t *translation) cond(l []api.Datum, at place) (api.Core, api.Errno) {
	last, e := t.otherwise(l, at.scope)
	if e != api.OK {
		return wrong(e)
	}
	if len(last) > 0 {
		l = l[:len(l)-1]
	}
	return t.clauses(l, last, at.inside())
}

// otherwise examines the clauses of a cond; it answers the forms behind else, none if there is no such clause.
func (t *translation) otherwise(l []api.Datum, scope int) ([]api.Datum, api.Errno) {
	for i, clause := range l {
		if clause.K != api.DList || len(clause.L) == 0 {
			return nil, api.ErrSyntax
		}
		head := clause.L[0]
		if head.K != api.DSym || head.S != "else" {
			continue
		}
		free, e := t.free(head, scope, "else")
		if e != api.OK {
			return nil, e
		}
		if free && (i < len(l)-1 || len(clause.L) == 1) {
			return nil, api.ErrSyntax
		}
		if free {
			return clause.L[1:], api.OK
		}
	}
	return nil, api.OK
}

// free tells whether an identifier is free and has this text.
func (t *translation) free(id api.Datum, scope int, text string) (bool, api.Errno) {
	seen, e := t.scopes.Find(scope, id)
	return e == api.OK && seen.Scope == 0 && seen.Name == text, e
}

// clauses is the translation of those of a cond, with the forms behind its else.
func (t *translation) clauses(l, last []api.Datum, at place) (api.Core, api.Errno) {
	if len(l) == 0 && len(last) == 0 {
		return no(), api.OK
	}
	if len(l) == 0 {
		return t.body(last, at)
	}
	clause := l[0].L
	if len(clause) == 1 {
		return t.either(clause[0], at, func() (api.Core, api.Errno) { return t.clauses(l[1:], last, at) })
	}
	test, e := t.translate(clause[0], at)
	if e != api.OK {
		return wrong(e)
	}
	body, e := t.body(clause[1:], at)
	if e != api.OK {
		return wrong(e)
	}
	rest, e := t.clauses(l[1:], last, at)
	return join(api.Core{K: api.CoIf}, []api.Core{test, body, rest}, e)
}
