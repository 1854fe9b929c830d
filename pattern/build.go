package pattern

import (
	"slices"

	"shuttle/api"
	"shuttle/datum"
)

// Build is a template in which each variable is replaced by what it is bound to, and every other symbol has the mark.
func Build(tmpl api.Datum, got []api.Got, mark int) (api.Datum, api.Errno) {
	if mark < 0 || mark > api.MaxMark || !bindings(got) {
		return api.Datum{}, api.ErrArg
	}
	if e := datum.Check(tmpl); e != api.OK {
		return api.Datum{}, e
	}
	whole, e := plan(tmpl, got, mark)
	if e != api.OK {
		return api.Datum{}, e
	}
	w := writer{left: 4 * api.MaxNodes}
	for i := range got {
		w.now = append(w.now, &got[i])
	}
	d, e := w.write(&whole)
	if e == api.OK {
		e = datum.Check(d)
	}
	if e != api.OK {
		return api.Datum{}, e
	}
	return d, api.OK
}

// bindings tells whether these may be bindings.
func bindings(got []api.Got) bool {
	left := api.MaxNodes
	var may func(g api.Got) bool
	may = func(g api.Got) bool {
		left--
		if left < 0 || g.Deep < 0 || g.Deep > api.MaxDeep || !isSymbol(g.ID) || isEllipsis(g.ID) {
			return false
		}
		if g.Deep == 0 {
			return len(g.L) == 0 && datum.Check(g.D) == api.OK
		}
		for _, x := range g.L {
			if x.Deep != g.Deep-1 || !datum.Same(x.ID, g.ID) || !may(x) {
				return false
			}
		}
		return isZero(g.D)
	}
	for _, g := range got {
		if !may(g) {
			return false
		}
	}
	return true
}

func isZero(d api.Datum) bool {
	return d.K == 0 && d.N == 0 && d.S == "" && len(d.M) == 0 && len(d.L) == 0 && len(d.T) == 0
}

// writer writes a template: how many nodes it may still write, and what each variable is bound to where it is.
type writer struct {
	left int
	now  []*api.Got
}

// write is one result of a piece, whether it is repeated or not.
func (w *writer) write(p *piece) (api.Datum, api.Errno) {
	if p.variable >= 0 {
		d := w.now[p.variable].D
		if w.left -= datum.Size(d); w.left < 0 {
			return api.Datum{}, api.ErrLong
		}
		return datum.Clone(d), api.OK
	}
	if w.left--; w.left < 0 {
		return api.Datum{}, api.ErrLong
	}
	d := p.d
	d.M = slices.Clone(d.M)
	for i := range p.parts {
		var e api.Errno
		if d.L, e = w.part(d.L, &p.parts[i]); e != api.OK {
			return api.Datum{}, e
		}
	}
	if d.K == api.DDot {
		last := len(d.L) - 1
		return merge(d.L[:last], d.L[last]), api.OK
	}
	return d, api.OK
}

// part is l with the results of a piece behind it.
func (w *writer) part(l []api.Datum, p *piece) ([]api.Datum, api.Errno) {
	if p.repeated {
		return w.repeat(l, p)
	}
	d, e := w.write(p)
	return append(l, d), e
}

// repeat writes a piece once for each element of the rows to which variables in it are bound.
func (w *writer) repeat(l []api.Datum, p *piece) ([]api.Datum, api.Errno) {
	rows := make([]*api.Got, len(p.rows))
	for i, number := range p.rows {
		rows[i] = w.now[number]
		if len(rows[i].L) != len(rows[0].L) {
			return nil, api.ErrUneven
		}
	}
elements:
	for at := 0; ; at++ {
		for i, number := range p.rows {
			if at == len(rows[i].L) {
				break elements
			}
			w.now[number] = &rows[i].L[at]
		}
		d, e := w.write(p)
		if e != api.OK {
			return nil, e
		}
		l = append(l, d)
	}
	for i, number := range p.rows {
		w.now[number] = rows[i]
	}
	return l, api.OK
}

// merge is the list of l with a tail that may be a list itself.
func merge(l []api.Datum, tail api.Datum) api.Datum {
	if len(l) == 0 {
		return tail
	}
	if tail.K == api.DList || tail.K == api.DDot {
		return api.Datum{K: tail.K, L: append(l, tail.L...), T: tail.T}
	}
	return api.Datum{K: api.DDot, L: l, T: []api.Datum{tail}}
}
