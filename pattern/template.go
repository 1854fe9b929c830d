package pattern

import (
	"slices"

	"shuttle/api"
)

// piece is a node of a template as it is written.
type piece struct {
	d        api.Datum // the node, a symbol with the mark already
	variable int       // its number, -1 if it is none
	parts    []piece   // the elements without the ellipses, and the tail, if it has one
	repeated bool
	rows     []int // of one that is repeated: the variables in it that have a row there
}

// planner makes the pieces of a template.
type planner struct {
	numbers map[name]int // of the variables
	got     []api.Got
	mark    int
	open    []*piece // the repeated elements that contain what it is at, from the outermost on
}

// plan is a template as pieces, for variables that are as deep as got says; ErrTmpl if it is none.
func plan(tmpl api.Datum, got []api.Got, mark int) (piece, api.Errno) {
	p := planner{numbers: map[name]int{}, got: got, mark: mark}
	for i, g := range got {
		n := nameOf(g.ID)
		if _, twice := p.numbers[n]; !twice {
			p.numbers[n] = i
		}
	}
	whole := piece{}
	if !p.piece(&whole, tmpl) {
		return piece{}, api.ErrTmpl
	}
	return whole, api.OK
}

// piece fills in t; false if d may not be there.
func (p *planner) piece(t *piece, d api.Datum) bool {
	t.variable = -1
	t.d = api.Datum{K: d.K, N: d.N, S: d.S}
	if d.K == api.DSym {
		return p.symbol(t, d)
	}
	if _, ok := ellipses(d.L); !ok {
		return false
	}
	for i, x := range d.L {
		if !isEllipsis(x) && !p.part(t, x, isRepeated(d.L, i)) {
			return false
		}
	}
	for _, x := range d.T {
		if !p.part(t, x, false) {
			return false
		}
	}
	return true
}

func (p *planner) part(t *piece, d api.Datum, repeated bool) bool {
	part, outer := piece{repeated: repeated}, p.open
	if repeated {
		p.open = append(p.open, &part)
	}
	ok := p.piece(&part, d) && (!repeated || len(part.rows) > 0)
	p.open = outer
	t.parts = append(t.parts, part)
	return ok
}

func (p *planner) symbol(t *piece, d api.Datum) bool {
	if isEllipsis(d) { // one that may be where it is doesn't come here
		return false
	}
	number, is := p.numbers[nameOf(d)]
	if !is {
		t.d.M = slices.Clone(d.M)
		if p.mark != 0 {
			t.d.M = append(t.d.M, p.mark)
		}
		return true
	}
	t.variable = number
	deep := p.got[number].Deep
	if deep > len(p.open) {
		return false
	}
	// Each of the outer elements takes one level of the variable; further in it is the same each time.
	for _, outer := range p.open[:deep] {
		outer.rows = append(outer.rows, number)
	}
	return true
}
