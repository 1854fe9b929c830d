package expand

import (
	"shuttle/api"
	"shuttle/datum"
)

// translation is that of one form: the expander that it changes, and how many steps it took so far.
type translation struct {
	*Expander
	keywords map[string]keyword
	steps    int
}

// keyword translates the lists that begin with it; l is what is behind it.
type keyword func(t *translation, l []api.Datum, at place) (api.Core, api.Errno)

func keywords() map[string]keyword {
	return map[string]keyword{
		"quote":         (*translation).quote,
		"if":            (*translation).choice,
		"lambda":        (*translation).lambda,
		"set!":          (*translation).set,
		"begin":         (*translation).begin,
		"define":        (*translation).define,
		"let":           (*translation).let,
		"let*":          (*translation).letInTurn,
		"letrec":        (*translation).letrec,
		"and":           (*translation).and,
		"or":            (*translation).or,
		"cond":          (*translation).cond,
		"when":          (*translation).when,
		"unless":        (*translation).unless,
		"define-syntax": (*translation).defineSyntax,
		"let-syntax":    (*translation).letSyntax,
	}
}

// place is where a form stands: in which scope, and whether at the top level.
type place struct {
	scope int
	top   bool
}

// inside is where the parts of a form stand.
func (p place) inside() place { return place{scope: p.scope} }

// translate is the translation of a datum. What a macro makes of a form takes its place.
func (t *translation) translate(d api.Datum, at place) (api.Core, api.Errno) {
	for {
		if t.steps == api.MaxSteps {
			return api.Core{}, api.ErrSteps
		}
		t.steps++
		if d.K == api.DSym {
			return t.name(d, at.scope)
		}
		if d.K != api.DList && d.K != api.DDot {
			return constant(d), api.OK
		}
		if d.K == api.DDot || len(d.L) == 0 {
			return wrong(api.ErrSyntax)
		}
		head, e := t.head(d.L[0], at.scope)
		if e != api.OK {
			return wrong(e)
		}
		if head.macro == nil {
			return t.list(head, d.L, at)
		}
		if d, e = t.use(head.macro, d, at.scope); e != api.OK {
			return wrong(e)
		}
	}
}

// list is the translation of a list that is no use of a macro.
func (t *translation) list(head meaning, l []api.Datum, at place) (api.Core, api.Errno) {
	if head.keyword != nil {
		return head.keyword(t, l[1:], at)
	}
	parts, e := t.all(l, at.inside())
	return join(api.Core{K: api.CoCall}, parts, e)
}

// all are the translations of data, one after the other.
func (t *translation) all(l []api.Datum, at place) ([]api.Core, api.Errno) {
	parts := make([]api.Core, 0, len(l))
	for _, d := range l {
		c, e := t.translate(d, at)
		if e != api.OK {
			return nil, e
		}
		parts = append(parts, c)
	}
	return parts, api.OK
}

// body is the translation of one form at least.
func (t *translation) body(l []api.Datum, at place) (api.Core, api.Errno) {
	if len(l) == 1 {
		return t.translate(l[0], at)
	}
	parts, e := t.all(l, at)
	return join(api.Core{K: api.CoSeq}, parts, e)
}

// name is the translation of a symbol.
func (t *translation) name(id api.Datum, scope int) (api.Core, api.Errno) {
	m, e := t.meaning(id, scope)
	switch {
	case e != api.OK:
		return wrong(e)
	case m.variable != 0:
		return local(m.variable), api.OK
	case m.global != "":
		return api.Core{K: api.CoGlobal, S: m.global}, api.OK
	}
	return wrong(api.ErrSyntax)
}

// meaning is what an identifier denotes: one of these.
type meaning struct {
	variable int64
	macro    *macro
	keyword  keyword
	global   string
}

// head is the meaning of a list's first element, none if that is no symbol.
func (t *translation) head(d api.Datum, scope int) (meaning, api.Errno) {
	if d.K != api.DSym {
		return meaning{}, api.OK
	}
	return t.meaning(d, scope)
}

// meaning asks the scopes: what they bind is the number of a variable or, below 0, of a local macro.
func (t *translation) meaning(id api.Datum, scope int) (meaning, api.Errno) {
	seen, e := t.scopes.Find(scope, id)
	if e != api.OK {
		return meaning{}, e
	}
	if seen.What > 0 {
		return meaning{variable: seen.What}, api.OK
	}
	if seen.What < 0 {
		return meaning{macro: t.locals[-seen.What-1]}, api.OK
	}
	if k := t.keywords[seen.Name]; k != nil {
		return meaning{keyword: k}, api.OK
	}
	if m := t.globals[seen.Name]; m != nil {
		return meaning{macro: m}, api.OK
	}
	return meaning{global: seen.Name}, api.OK
}

// variable is a new one.
func (t *translation) variable() int {
	t.vars++
	return t.vars
}

// wrong is what there is beside an error.
func wrong(e api.Errno) (api.Core, api.Errno) { return api.Core{}, e }

// join gives an expression its parts, unless there was an error with them.
func join(c api.Core, parts []api.Core, e api.Errno) (api.Core, api.Errno) {
	if e != api.OK {
		return wrong(e)
	}
	c.L = append(c.L, parts...)
	return c, api.OK
}

func constant(d api.Datum) api.Core { return api.Core{K: api.CoConst, D: datum.Plain(d)} }
func truth(n int64) api.Core        { return constant(api.Datum{K: api.DBool, N: n}) }
func no() api.Core                  { return truth(0) }
func local(v int64) api.Core        { return api.Core{K: api.CoLocal, N: v} }
