package read

import (
	"shuttle/api"
	"shuttle/datum"
)

// reader is what the tokens so far have come to: the data of the text that are complete, and the parts that are not.
// Parts are within one another, the innermost is the last. The first one is the text itself, which no token begins.
type reader struct {
	forms []api.Form
	parts []part
}

// part is a datum that isn't complete: its first token, and what has been read of it.
type part struct {
	first    api.Token
	elements []api.Datum
	tail     []api.Datum
	state    int
}

// States of a part.
const (
	open   = 0 // elements may follow
	dotted = 1 // its tail has to follow
	ended  = 2 // nothing but its end may follow
)

func start() *reader {
	return &reader{parts: make([]part, 1)}
}

// take reads one token. If that is a fault, it tells where, and which one.
func (r *reader) take(t api.Token) (int, api.Errno) {
	if len(r.forms) == api.MaxForms {
		return t.At, api.ErrLong
	}
	if permitted := r.rule(t.K); !permitted(t) {
		return t.At, api.ErrClose
	}
	if !r.outside() {
		return 0, api.OK
	}
	// A token outside of all data is part of one, so the token that leads there has completed one.
	last := r.forms[len(r.forms)-1]
	if e := datum.Check(last.D); e != api.OK {
		return last.At, e
	}
	return 0, api.OK
}

// rule is how tokens of a kind are read: what it answers tells whether the token is permitted here.
func (r *reader) rule(kind int) func(api.Token) bool {
	switch kind {
	case api.TkOpen, api.TkVec, api.TkQuote, api.TkQuasi, api.TkComma, api.TkSplice:
		return r.begin
	case api.TkClose:
		return r.end
	case api.TkDot:
		return r.dot
	}
	return r.single
}

// begin reads the first token of a datum that goes on.
func (r *reader) begin(t api.Token) bool {
	if r.innermost().state == ended {
		return false
	}
	r.parts = append(r.parts, part{first: t})
	return true
}

// single reads a token that is a datum.
func (r *reader) single(t api.Token) bool {
	if r.innermost().state == ended {
		return false
	}
	r.add(api.Datum{K: datumKind(t.K), N: t.N, S: t.S}, t.At)
	return true
}

func (r *reader) dot(api.Token) bool {
	p := r.innermost()
	if p.first.K != api.TkOpen || p.state != open || len(p.elements) == 0 {
		return false
	}
	p.state = dotted
	return true
}

func (r *reader) end(api.Token) bool {
	p := *r.innermost()
	if p.first.K != api.TkOpen && p.first.K != api.TkVec || p.state == dotted {
		return false
	}
	r.leave()
	r.add(p.datum(), p.first.At)
	return true
}

// add puts a complete datum, and where it begins, into the innermost part.
func (r *reader) add(d api.Datum, at int) {
	for p := r.innermost(); word(p.first.K) != ""; p = r.innermost() { // such a part is complete with one datum
		name := api.Datum{K: api.DSym, S: word(p.first.K)}
		d, at = api.Datum{K: api.DList, L: []api.Datum{name, d}}, p.first.At
		r.leave()
	}
	p := r.innermost()
	switch {
	case r.outside():
		r.forms = append(r.forms, api.Form{At: at, D: d})
	case p.state == dotted:
		p.finish(d)
	default:
		p.elements = append(p.elements, d)
	}
}

func (r *reader) innermost() *part { return &r.parts[len(r.parts)-1] }

func (r *reader) leave() { r.parts = r.parts[:len(r.parts)-1] }

// outside tells whether all data that have begun are complete.
func (r *reader) outside() bool { return len(r.parts) == 1 }

// finish gives a part its tail. A list in that place is what the part goes on with, and may have a tail itself.
func (p *part) finish(tail api.Datum) {
	p.state = ended
	if tail.K == api.DList || tail.K == api.DDot {
		p.elements = append(p.elements, tail.L...)
		p.tail = tail.T
		return
	}
	p.tail = []api.Datum{tail}
}

// datum is what a part that began with ( or #( is when it is complete.
func (p part) datum() api.Datum {
	d := api.Datum{K: api.DList, L: p.elements, T: p.tail}
	switch {
	case p.first.K == api.TkVec:
		d.K = api.DVec
	case len(p.tail) > 0:
		d.K = api.DDot
	}
	return d
}
