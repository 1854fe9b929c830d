package core_test

import (
	"slices"
	"testing"

	"shuttle/api"
	"shuttle/core"
)

// picker picks numbers, the same ones each time.
type picker struct{ seed uint64 }

func newPicker(seed uint64) *picker {
	p := &picker{seed*2654435769 + 88172645463325252}
	for range 5 {
		p.pick(2)
	}
	return p
}

func (p *picker) pick(below int) int {
	p.seed ^= p.seed << 13
	p.seed ^= p.seed >> 7
	p.seed ^= p.seed << 17
	return int(p.seed>>11) % below
}

// grower grows mixed expressions that are valid within 1, 2 and 3.
type grower struct {
	*picker
	next int
}

func grown(p *picker, levels int) api.Core {
	g := &grower{p, 4}
	return g.core(levels, []int{1, 2, 3}, true)
}

func (g *grower) core(levels int, scope []int, top bool) api.Core {
	kinds := 10
	if levels == 0 {
		kinds = 3
	}
	kind := 1 + g.pick(kinds)
	if kind == api.CoDefine && !top {
		kind = api.CoAssign
	}
	part := func(scope []int) []api.Core { return []api.Core{g.core(levels-1, scope, false)} }
	name := []string{"a", "b", "car", "+", "..."}[g.pick(5)]
	variable := int64(scope[g.pick(len(scope))])
	switch kind {
	case api.CoConst:
		return constant(g.datum(3))
	case api.CoLocal:
		return local(variable)
	case api.CoGlobal:
		return global(name)
	case api.CoSet:
		return api.Core{K: kind, N: variable, L: part(scope)}
	case api.CoAssign, api.CoDefine:
		return api.Core{K: kind, S: name, L: part(scope)}
	case api.CoIf:
		return api.Core{K: kind, L: g.row(3, levels, scope, false)}
	case api.CoLambda:
		c := api.Core{K: kind}
		for range g.pick(4) {
			c.P = append(c.P, g.next)
			g.next += 1 + g.pick(3)
		}
		if g.pick(4) == 0 && len(c.P) > 0 {
			c.N = 1
		}
		c.L = part(slices.Concat(scope, c.P))
		return c
	}
	return api.Core{K: kind, L: g.row(1+g.pick(3), levels, scope, top && kind == api.CoSeq)}
}

func (g *grower) row(count, levels int, scope []int, top bool) []api.Core {
	var l []api.Core
	for range count {
		l = append(l, g.core(levels-1, scope, top))
	}
	return l
}

func (g *grower) datum(levels int) api.Datum {
	kinds := 8
	if levels == 0 {
		kinds = 5
	}
	switch 1 + g.pick(kinds) {
	case api.DFix:
		return num(int64(g.pick(2000)) - 1000)
	case api.DBool:
		return api.Datum{K: api.DBool, N: int64(g.pick(2))}
	case api.DChar:
		return api.Datum{K: api.DChar, N: int64(g.pick(128))}
	case api.DStr:
		return api.Datum{K: api.DStr, S: "s"}
	case api.DSym:
		return sym("y")
	case api.DList:
		return list(g.data(levels, g.pick(3))...)
	case api.DVec:
		return api.Datum{K: api.DVec, L: g.data(levels, g.pick(3))}
	}
	return api.Datum{K: api.DDot, L: g.data(levels, 1+g.pick(2)), T: []api.Datum{num(int64(g.pick(9)))}}
}

func (g *grower) data(levels, count int) []api.Datum {
	l := make([]api.Datum, count)
	for i := range l {
		l[i] = g.datum(levels - 1)
	}
	return l
}

// copied is an expression with lists of its own.
func copied(c api.Core) api.Core {
	c.P, c.L = slices.Clone(c.P), slices.Clone(c.L)
	for i, x := range c.L {
		c.L[i] = copied(x)
	}
	return c
}

// places are where the nodes of an expression are, in order.
func places(c *api.Core) []*api.Core {
	l := []*api.Core{c}
	for i := range c.L {
		l = append(l, places(&c.L[i])...)
	}
	return l
}

// hurt is an expression with one change, which may make it invalid.
func hurt(p *picker, c api.Core) api.Core {
	c = copied(c)
	l := places(&c)
	x := l[p.pick(len(l))]
	switch p.pick(14) {
	case 0:
		x.N++
	case 1:
		x.N = int64(p.pick(12))
	case 2:
		x.K = p.pick(12)
	case 3:
		x.S = []string{"", "1", "c"}[p.pick(3)]
	case 4:
		x.P = append(x.P, 1+p.pick(12))
	case 5:
		x.P = x.P[:len(x.P)/2]
	case 6:
		x.L = x.L[:len(x.L)/2]
	case 7:
		x.L = append(x.L, copied(*l[p.pick(len(l))]))
	case 8:
		x.D = []api.Datum{{}, num(1), sym("a"), sym("a", 1), {K: 9}}[p.pick(5)]
	case 9:
		*x = local(int64(1 + p.pick(12)))
	case 10:
		*x = set(int64(1+p.pick(12)), *x)
	case 11:
		*x = lambda(*x, 1+p.pick(12))
	case 12:
		*x = define("d", *x)
	case 13:
		slices.Reverse(x.L)
	}
	return c
}

// P7.1, P7.3, P7.4, P7.5: mixed expressions, as they are grown and with faults.
func TestMixed(t *testing.T) {
	t.Parallel()
	p := newPicker(1)
	opened := 0
	for i := range 2500 {
		c := grown(p, 1+i%6)
		if core.Check(c, 1, 2, 3) != api.OK || !holds(t, c, []int{1, 2, 3}, []int{p.pick(9), p.pick(9)}) {
			t.Fatalf("%s should be valid", brief(c))
		}
		for range 4 {
			c = hurt(p, c)
			if holds(t, c, []int{1, 2, 3}, []int{p.pick(9), 1 + p.pick(9)}) {
				opened++
			}
		}
	}
	if opened < 1500 || opened > 7500 {
		t.Error("so many with faults are open:", opened, "of 10000")
	}
}

// P7.4, P7.5: the lists of mixed expressions, with a change.
func TestMixedData(t *testing.T) {
	t.Parallel()
	p := newPicker(2)
	made := 0
	for i := range 6000 {
		x := copiedDatum(listOf(grown(p, 1+i%4)))
		for range 1 + p.pick(2) {
			l := dataPlaces(&x)
			at := l[p.pick(len(l))]
			switch p.pick(9) {
			case 0:
				*at = copiedDatum(*l[p.pick(len(l))])
			case 1:
				at.L = append(slices.Clone(at.L), num(int64(p.pick(6))))
			case 2:
				at.L = at.L[:len(at.L)/2]
			case 3:
				at.M = []int{1}
			case 4:
				at.N = int64(p.pick(6))
			case 5:
				at.K = api.DVec
			case 6:
				at.S = []string{"seq", "lambda", "lambda*", "const"}[p.pick(4)]
			case 7:
				*at = list(*at)
			case 8:
				at.T = []api.Datum{num(1)}
				at.K = api.DDot
			}
			x = copiedDatum(x)
		}
		if holdsOf(t, x) {
			made++
		}
	}
	if made < 600 || made > 5400 {
		t.Error("so many are expressions:", made, "of 6000")
	}
}

func dataPlaces(x *api.Datum) []*api.Datum {
	l := []*api.Datum{x}
	for i := range x.L {
		l = append(l, dataPlaces(&x.L[i])...)
	}
	return l
}

func copiedDatum(x api.Datum) api.Datum {
	x.M, x.L, x.T = slices.Clone(x.M), slices.Clone(x.L), slices.Clone(x.T)
	for i, y := range x.L {
		x.L[i] = copiedDatum(y)
	}
	return x
}

// renamed is a valid expression whose variables have the numbers of a shuffled row.
func renamed(p *picker, c api.Core) api.Core {
	c = copied(c)
	fresh, by := upTo(200), map[int]int{}
	for i := range fresh {
		j := p.pick(len(fresh))
		fresh[i], fresh[j] = fresh[j], fresh[i]
	}
	for _, x := range places(&c) {
		for i, v := range x.P {
			by[v] = fresh[len(by)]
			x.P[i] = by[v]
		}
	}
	for _, x := range places(&c) {
		if uses(*x) {
			x.N = int64(by[int(x.N)])
		}
	}
	return c
}

// closed is a mixed valid expression.
func closed(p *picker, levels int) api.Core {
	return lambda(grown(p, levels), 1, 2, 3)
}

// P7.2, P7.6: mixed expressions are alike when their variables are renamed, and not when one use of a variable becomes another's.
func TestMixedAlike(t *testing.T) {
	t.Parallel()
	p := newPicker(3)
	changed := 0
	for i := range 3000 {
		a := closed(p, 1+i%5)
		if wrong(a, false) != api.OK {
			continue // a CoDefine in it
		}
		b := renamed(p, a)
		c := renamed(p, b)
		if !core.Alike(a, b) || !core.Alike(b, c) || !core.Alike(a, c) || core.Same(a, b) != equal(a, b) {
			t.Fatalf("%s and %s should be alike", brief(a), brief(b))
		}
		sameFacts(t, a, b)
		sameFacts(t, a, c)
		other := copied(b)
		l := places(&other)
		x := l[p.pick(len(l))]
		if uses(*x) {
			v := x.N
			x.N = int64(b.P[p.pick(3)])
			if core.Alike(a, other) != (v == x.N) || core.Alike(other, a) != (v == x.N) {
				t.Fatalf("%s and %s: Alike is wrong", brief(a), brief(other))
			}
			changed++
			continue
		}
		other = hurt(p, b)
		if core.Alike(a, other) != (wrong(other, false) == api.OK && likeByHand(a, other)) {
			t.Fatalf("%s and %s: Alike is wrong", brief(a), brief(other))
		}
	}
	if changed < 100 {
		t.Error("only so many uses were changed:", changed)
	}
}

// likeByHand pairs the nodes of two valid expressions, and the variables that they bind.
func likeByHand(a, b api.Core) bool {
	x, y := tell(a).nodes, tell(b).nodes
	if len(x) != len(y) {
		return false
	}
	by := map[int]int{}
	for i := range x {
		for j := range x[i].P {
			if len(x[i].P) != len(y[i].P) {
				return false
			}
			by[x[i].P[j]] = y[i].P[j]
		}
	}
	for i := range x {
		m, n := x[i], y[i]
		if len(m.L) != len(n.L) || len(m.P) != len(n.P) || uses(m) && by[int(m.N)] != int(n.N) {
			return false
		}
		if uses(m) {
			m.N = n.N
		}
		m.P = n.P
		if !fields(m, n) {
			return false
		}
	}
	return true
}

// P7.7: what is valid within some variables is valid within more, if no CoLambda binds these; what is valid has no free variables.
func TestScopes(t *testing.T) {
	t.Parallel()
	p := newPicker(4)
	valid := 0
	for i := range 3000 {
		c := grown(p, 1+i%5)
		if i%2 == 0 {
			c = hurt(p, c)
		}
		within := []int{1, 2, 3}[:p.pick(4)]
		if core.Check(c, within...) != api.OK {
			continue
		}
		valid++
		more := slices.Clone(within)
		binds := false
		for range p.pick(3) {
			v := 1 + p.pick(12)
			binds = binds || slices.Contains(tell(c).bound, v)
			more = append(more, v)
		}
		want := api.OK
		if binds {
			want = api.ErrCore
		}
		if got := core.Check(c, more...); got != want {
			t.Fatalf("%s is valid within %v, but within %v: %d", brief(c), within, more, got)
		}
		if free := core.Free(c); len(within) == 0 && len(free) != 0 || !subset(free, within) {
			t.Fatalf("%s is valid within %v, but has %v from outside", brief(c), within, free)
		}
	}
	if valid < 1000 {
		t.Error("only so many are valid:", valid)
	}
}

func subset(l, of []int) bool {
	for _, v := range l {
		if !slices.Contains(of, v) {
			return false
		}
	}
	return true
}
