package pattern

import (
	"slices"

	"shuttle/api"
	"shuttle/datum"
)

// found is what a part of a pattern matched: the datum, if it is a variable; of a row, what its parts matched; of a part that is repeated, what it matched each time.
type found struct {
	d  api.Datum
	in []found
}

// matcher has the test for literals.
type matcher struct {
	same func(lit, x api.Datum) bool
}

// careful is same so that it can't do harm: it is given data of its own, and what it doesn't answer isn't so.
func careful(same func(lit, x api.Datum) bool) matcher {
	return matcher{func(lit, x api.Datum) (is bool) {
		defer func() {
			if recover() != nil {
				is = false
			}
		}()
		return same(datum.Clone(lit), datum.Clone(x))
	}}
}

func (m matcher) match(s *shape, d api.Datum) (found, bool) {
	switch s.kind {
	case literal:
		return found{}, d.K == api.DSym && m.same(s.d, d)
	case wildcard:
		return found{}, true
	case variable:
		return found{d: d}, true
	case row:
		return m.row(s, d)
	}
	return found{}, datum.Same(s.d, d)
}

// row matches the parts of a list or a vector; the one that is repeated takes what the others leave.
func (m matcher) row(s *shape, d api.Datum) (found, bool) {
	l, ok := against(s, d)
	times := len(l) - len(s.parts) + 1
	if !ok || times < 0 || s.many < 0 && times != 1 {
		return found{}, false
	}
	f := found{in: make([]found, len(s.parts))}
	for i := range s.parts {
		if i == s.many {
			f.in[i], ok = m.each(&s.parts[i], l[:times])
			l = l[times:]
		} else {
			f.in[i], ok = m.match(&s.parts[i], l[0])
			l = l[1:]
		}
		if !ok {
			return found{}, false
		}
	}
	return f, true
}

// each matches a part with all of these data.
func (m matcher) each(s *shape, l []api.Datum) (found, bool) {
	f := found{in: make([]found, len(l))}
	for i, d := range l {
		var ok bool
		if f.in[i], ok = m.match(s, d); !ok {
			return found{}, false
		}
	}
	return f, true
}

// against is what the parts of s are to match in d: its elements, and what is behind them where s has a tail.
func against(s *shape, d api.Datum) ([]api.Datum, bool) {
	if s.d.K != api.DDot {
		return d.L, d.K == s.d.K
	}
	ahead := len(s.d.L)
	if d.K != api.DList && d.K != api.DDot || len(d.L) < ahead {
		return nil, false
	}
	return append(slices.Clone(d.L[:ahead]), behind(d, ahead)), true
}

// behind is what is left of a list without so many of its elements.
func behind(d api.Datum, ahead int) api.Datum {
	if d.K == api.DDot && len(d.L) == ahead {
		return d.T[0]
	}
	d.L = d.L[ahead:]
	return d
}

// count is how many bindings bind makes, those in rows too.
func (s *shape) count(f found) int {
	if s.kind == variable {
		return 1
	}
	sum := 0
	for i := range s.parts {
		part := &s.parts[i]
		if i != s.many {
			sum += part.count(f.in[i])
			continue
		}
		sum += part.to - part.from
		for _, one := range f.in[i].in {
			sum += part.count(one)
		}
	}
	return sum
}

// bind is what the variables of a part are bound to. No two of them share memory: each matched nodes of its own.
func (r *parsed) bind(s *shape, f found) []api.Got {
	if s.kind == variable {
		return []api.Got{{ID: datum.Clone(s.d), D: f.d}}
	}
	var got []api.Got
	for i := range s.parts {
		if i == s.many {
			got = append(got, r.bindEach(&s.parts[i], f.in[i].in)...)
		} else {
			got = append(got, r.bind(&s.parts[i], f.in[i])...)
		}
	}
	return got
}

// bindEach is what the variables of a repeated part are bound to: a row each, in which there may be nothing.
func (r *parsed) bindEach(s *shape, each []found) []api.Got {
	got := make([]api.Got, s.to-s.from)
	for i, v := range r.vars[s.from:s.to] {
		got[i] = api.Got{ID: datum.Clone(v.ID), Deep: v.Deep - s.deep + 1, L: make([]api.Got, 0, len(each))}
	}
	for _, one := range each {
		for i, g := range r.bind(s, one) {
			got[i].L = append(got[i].L, g)
		}
	}
	return got
}
