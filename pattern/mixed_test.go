package pattern_test

import (
	"slices"
	"strconv"

	"shuttle/api"
)

// Mixed patterns, forms that match them or nearly do, and templates for them; the same ones each time.

// maker makes them: the variables of its pattern have numbers.
type maker struct {
	picker
	vars int
	bare bool // no literals and wildcards
}

func newMaker(seed int) *maker {
	m := &maker{picker: picker(seed*7919 + 1)}
	for range 9 { // the first ones are much alike
		m.pick(2)
	}
	return m
}

func (m *maker) chance(in int) bool { return m.pick(in) == 0 }

func (m *maker) marks() []int {
	var l []int
	for m.chance(4) {
		l = append(l, 1+m.pick(3))
	}
	return l
}

func (m *maker) atom() api.Datum {
	return []api.Datum{num(int64(m.pick(3))), {K: api.DBool, N: int64(m.pick(2))}, {K: api.DStr, S: "s"}, {K: api.DChar, N: 'c'}, sym([]string{"x", "else", "v0", "..."}[m.pick(4)], m.marks()...)}[m.pick(5)]
}

// form is any datum, with at most so many levels below its own.
func (m *maker) form(levels int) api.Datum {
	if levels == 0 || m.chance(2) {
		return m.atom()
	}
	var l []api.Datum
	for range m.pick(4) {
		l = append(l, m.form(levels-1))
	}
	switch m.pick(4) {
	case 0:
		return vec(l...)
	case 1:
		if len(l) > 0 {
			return dot(m.atom(), l...)
		}
	}
	return list(l...)
}

func (m *maker) variable() api.Datum {
	m.vars++
	return sym("v"+strconv.Itoa(m.vars/2), slices.Repeat([]int{5}, m.vars%2)...)
}

// pattern is a pattern, now and then none.
func (m *maker) pattern(levels int) api.Datum {
	switch {
	case m.chance(60):
		return sym("...")
	case levels == 0 || m.chance(4):
		return m.leaf()
	}
	var l []api.Datum
	for range m.pick(4) + m.pick(2) {
		l = append(l, m.pattern(levels-1))
	}
	kind := m.pick(6)
	if kind < 3 && len(l) > 0 && !m.chance(3) {
		l = slices.Insert(l, 1+m.pick(len(l)), sym("...", m.marks()...))
	}
	switch {
	case kind < 2:
		return list(l...)
	case kind == 2:
		return vec(l...)
	case len(l) > 0 && kind == 3:
		return dot(m.leaf(), l...)
	}
	return list(l...)
}

func (m *maker) leaf() api.Datum {
	switch m.pick(7) {
	case 0:
		if m.chance(20) {
			return sym("v1")
		}
		if !m.bare {
			return sym("_", m.marks()...)
		}
	case 1:
		if !m.bare {
			return sym("else")
		}
	case 2:
		return num(int64(m.pick(3)))
	}
	return m.variable()
}

// like is a form that matches a pattern, or nearly does: one in wrong nodes is another.
func (m *maker) like(pat api.Datum, wrong int) api.Datum {
	if m.chance(wrong) {
		return m.form(2)
	}
	switch {
	case pat.K == api.DSym && pat.S == "else":
		return sym("else", m.marks()...)
	case pat.K == api.DSym:
		return m.form(2)
	case pat.K < api.DList:
		return pat
	}
	var l []api.Datum
	for i, x := range pat.L {
		times := 1
		if isDots(x) {
			continue
		}
		if i+1 < len(pat.L) && isDots(pat.L[i+1]) {
			times = m.pick(4)
		}
		for range times {
			l = append(l, m.like(x, wrong))
		}
	}
	if pat.K != api.DDot {
		return api.Datum{K: pat.K, L: l}
	}
	tail := m.like(pat.T[0], wrong)
	if tail.K == api.DList || tail.K == api.DDot {
		tail.L = append(l, tail.L...)
		return tail
	}
	return dot(tail, l...)
}

// template is a template for these variables in so many repeated elements; now and then none.
func (m *maker) template(vars []api.Got, levels, level int) api.Datum {
	switch {
	case m.chance(120):
		return sym("...")
	case levels == 0 || m.chance(6):
		if fit := deepest(vars, 0, level); len(fit) > 0 && !m.chance(5) {
			return fit[m.pick(len(fit))].ID
		}
		return m.atom()
	}
	var l []api.Datum
	for range m.pick(4) {
		fit := deepest(vars, level+1, 1000)
		if len(fit) == 0 || m.chance(3) {
			l = append(l, m.template(vars, levels-1, level))
			continue
		}
		l = append(l, m.driven(fit[m.pick(len(fit))], vars, levels-1, level+1), sym("...", m.marks()...))
	}
	switch {
	case m.chance(4):
		return vec(l...)
	case len(l) > 0 && m.chance(3):
		return dot(m.template(deepest(vars, 0, level), 0, level), l...)
	}
	return list(l...)
}

// driven is an element with a variable in it, which is deep enough for it to be repeated.
func (m *maker) driven(v api.Got, vars []api.Got, levels, level int) api.Datum {
	x := []api.Datum{v.ID}
	if v.Deep > level {
		x = []api.Datum{m.driven(v, vars, levels, level+1), sym("...")}
	} else if m.chance(2) {
		return v.ID
	}
	for range m.pick(3) {
		x = slices.Insert(x, 0, m.template(vars, max(levels-1, 0), level))
	}
	if fit := deepest(vars, level, level); len(fit) > 0 && m.chance(2) { // another row, maybe
		x = append(x, fit[m.pick(len(fit))].ID)
	}
	if m.chance(4) {
		return dot(m.template(deepest(vars, 0, level), 0, level), x...)
	}
	return list(x...)
}

// deepest are the variables of these depths.
func deepest(vars []api.Got, from, to int) []api.Got {
	var l []api.Got
	for _, v := range vars {
		if from <= v.Deep && v.Deep <= to {
			l = append(l, v)
		}
	}
	return l
}

// bindings are bindings of these variables to anything, the rows mostly even.
func (m *maker) bindings(vars []api.Got) []api.Got {
	sizes := []int{m.pick(4), m.pick(3), m.pick(3)}
	var fill func(g api.Got, level int) api.Got
	fill = func(g api.Got, level int) api.Got {
		if g.Deep == 0 {
			g.D = m.form(2)
			return g
		}
		size := sizes[level%3]
		if m.chance(8) {
			size = m.pick(4)
		}
		for range size {
			g.L = append(g.L, fill(api.Got{ID: g.ID, Deep: g.Deep - 1}, level+1))
		}
		return g
	}
	var got []api.Got
	for _, v := range vars {
		got = append(got, fill(api.Got{ID: v.ID, Deep: v.Deep}, 0))
	}
	return got
}
