package pattern

import (
	"shuttle/api"
	"shuttle/datum"
)

// What a part of a pattern matches.
const (
	constant = iota // an equal datum
	literal         // a symbol that means the same
	wildcard        // everything
	variable        // everything, which is bound to it
	row             // a list or a vector, part by part
)

// shape is a part of a pattern as it is matched.
type shape struct {
	kind  int
	d     api.Datum
	parts []shape // of a row: its elements without the ellipsis, and its tail, if it has one
	many  int     // the number of the part that is repeated, -1 if none is
	deep  int     // how many repeated elements contain it
	from  int     // its variables are those from here ..
	to    int     // .. to here
}

// parsed is a pattern that may be: its variables in order, each with its depth, and its shape.
type parsed struct {
	vars  []api.Got
	whole shape
}

// parse is a pattern's shape, with the errors of Vars.
func parse(lits []api.Datum, pat api.Datum) (parsed, api.Errno) {
	if e := datum.Check(pat); e != api.OK {
		return parsed{}, e
	}
	names, ok := literals(lits)
	if !ok {
		return parsed{}, api.ErrArg
	}
	p := parser{lits: names, seen: map[name]struct{}{}}
	whole, ok := p.shape(pat, 0)
	if !ok {
		return parsed{}, api.ErrPat
	}
	return parsed{p.vars, whole}, api.OK
}

// parser gathers the variables of a pattern while it is gone through.
type parser struct {
	lits map[name]struct{}
	seen map[name]struct{}
	vars []api.Got
}

// shape is that of a part that so many repeated elements contain; false if it is none.
func (p *parser) shape(d api.Datum, deep int) (shape, bool) {
	s, ok := shape{d: d, many: -1, deep: deep, from: len(p.vars)}, true
	switch d.K {
	case api.DSym:
		s.kind, ok = p.symbol(d, deep)
	case api.DList, api.DDot, api.DVec:
		s.kind, ok = row, p.row(&s)
	}
	s.to = len(p.vars)
	return s, ok
}

func (p *parser) symbol(d api.Datum, deep int) (int, bool) {
	if isEllipsis(d) { // one that may be where it is doesn't come here
		return 0, false
	}
	if isWildcard(d) {
		return wildcard, true
	}
	n := nameOf(d)
	if _, is := p.lits[n]; is {
		return literal, true
	}
	if _, twice := p.seen[n]; twice {
		return 0, false
	}
	p.seen[n] = struct{}{}
	p.vars = append(p.vars, api.Got{ID: datum.Clone(d), Deep: deep})
	return variable, true
}

// row finds the parts of a list or a vector.
func (p *parser) row(s *shape) bool {
	count, ok := ellipses(s.d.L)
	if !ok || count > 1 || count > 0 && s.d.K == api.DDot {
		return false
	}
	for i, d := range s.d.L {
		if isEllipsis(d) {
			continue
		}
		deep := s.deep
		if isRepeated(s.d.L, i) {
			s.many = len(s.parts)
			deep++
		}
		if !p.part(s, d, deep) {
			return false
		}
	}
	for _, d := range s.d.T {
		if !p.part(s, d, s.deep) {
			return false
		}
	}
	return true
}

func (p *parser) part(s *shape, d api.Datum, deep int) bool {
	part, ok := p.shape(d, deep)
	s.parts = append(s.parts, part)
	return ok
}
