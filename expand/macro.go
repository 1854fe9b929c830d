package expand

import (
	"shuttle/api"
	"shuttle/datum"
	"shuttle/pattern"
)

// macro is what syntax-rules defined, and in which scope. It doesn't change, so clones share it.
type macro struct {
	scope    int
	literals []api.Datum
	rules    []api.Rule
}

// definition is the macro that a datum defines in a scope.
func (t *translation) definition(s api.Datum, scope int) (*macro, api.Errno) {
	if s.K != api.DList || len(s.L) < 2 || s.L[0].K != api.DSym || s.L[1].K != api.DList {
		return nil, api.ErrSyntax
	}
	free, e := t.free(s.L[0], scope, "syntax-rules")
	if e != api.OK {
		return nil, e
	}
	if !free {
		return nil, api.ErrSyntax
	}
	s = datum.Clone(s) // the caller may change it later
	m := &macro{scope: scope, literals: s.L[1].L}
	for _, d := range s.L[2:] {
		if d.K != api.DList || len(d.L) != 2 {
			return nil, api.ErrSyntax
		}
		r := api.Rule{Pat: d.L[0], Tmpl: d.L[1]}
		if e := pattern.Check(m.literals, r); e != api.OK {
			return nil, e
		}
		m.rules = append(m.rules, r)
	}
	return m, api.OK
}

// use is what a macro makes of a form in a scope.
func (t *translation) use(m *macro, form api.Datum, scope int) (api.Datum, api.Errno) {
	mark, e := t.scopes.Mark(m.scope)
	if e != api.OK {
		return api.Datum{}, e
	}
	same := func(literal, id api.Datum) bool {
		is, _ := t.scopes.Same(m.scope, literal, scope, id)
		return is
	}
	d, _, e := pattern.Expand(m.literals, form, mark, same, m.rules...)
	return d, e
}

func (t *translation) define(l []api.Datum, at place) (api.Core, api.Errno) {
	if !at.top || len(l) == 0 {
		return wrong(api.ErrSyntax)
	}
	if l[0].K == api.DSym && len(l) == 2 {
		return t.defined(l[0], at, func() (api.Core, api.Errno) { return t.translate(l[1], at.inside()) })
	}
	id, e := datum.Car(l[0])
	if e != api.OK || id.K != api.DSym {
		return wrong(api.ErrSyntax)
	}
	return t.defined(id, at, func() (api.Core, api.Errno) {
		p, _ := datum.Cdr(l[0])
		return t.lambda(append([]api.Datum{p}, l[1:]...), at)
	})
}

// defined is a CoDefine of an identifier, for which no macro stands any more when its value is translated.
func (t *translation) defined(id api.Datum, at place, value func() (api.Core, api.Errno)) (api.Core, api.Errno) {
	name, e := t.definable(id, at.scope)
	if e != api.OK {
		return wrong(e)
	}
	delete(t.globals, name)
	c, e := value()
	return join(api.Core{K: api.CoDefine, S: name}, []api.Core{c}, e)
}

// definable is the name of an identifier that may be defined.
func (t *translation) definable(id api.Datum, scope int) (string, api.Errno) {
	seen, e := t.scopes.Find(scope, id)
	if e != api.OK {
		return "", e
	}
	if seen.Scope != 0 || t.keywords[seen.Name] != nil {
		return "", api.ErrSyntax
	}
	return seen.Name, api.OK
}

func (t *translation) defineSyntax(l []api.Datum, at place) (api.Core, api.Errno) {
	if !at.top || len(l) != 2 || l[0].K != api.DSym {
		return wrong(api.ErrSyntax)
	}
	name, e := t.definable(l[0], at.scope)
	if e != api.OK {
		return wrong(e)
	}
	m, e := t.definition(l[1], at.scope)
	if e != api.OK {
		return wrong(e)
	}
	t.globals[name] = m
	return no(), api.OK
}
