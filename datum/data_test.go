package datum_test

import (
	"fmt"
	"slices"
	"strings"

	"shuttle/api"
	"shuttle/datum"
)

// The data that the tests go through, made without the package, and what they hold it against.

func num(n int64) api.Datum            { return api.Datum{K: api.DFix, N: n} }
func str(s string) api.Datum           { return api.Datum{K: api.DStr, S: s} }
func sym(s string, m ...int) api.Datum { return api.Datum{K: api.DSym, S: s, M: m} }
func list(l ...api.Datum) api.Datum    { return api.Datum{K: api.DList, L: l} }
func vec(l ...api.Datum) api.Datum     { return api.Datum{K: api.DVec, L: l} }
func dot(t api.Datum, l ...api.Datum) api.Datum {
	return api.Datum{K: api.DDot, L: l, T: []api.Datum{t}}
}

// nest is x within so many lists.
func nest(lists int, x api.Datum) api.Datum {
	for range lists {
		x = list(x)
	}
	return x
}

// row is so many numbers.
func row(count int) []api.Datum {
	l := make([]api.Datum, count)
	for i := range l {
		l[i] = num(int64(i))
	}
	return l
}

func ones(count int) []int {
	return slices.Repeat([]int{1}, count)
}

// round is a list that contains itself.
func round() api.Datum {
	d := list(num(1), api.Datum{})
	d.L[1] = d
	return d
}

// bush is a list of as many twos, each of as many twos, .., that are all the same ones: 2 to the power of depth nodes in little memory.
func bush(depth int) api.Datum {
	d := num(1)
	for range depth {
		d = list(d, d)
	}
	return d
}

// valid are data that are valid, by kind and on the edges; each call makes them anew.
func valid() []api.Datum {
	l := []api.Datum{
		num(0), num(1), num(-1), num(1152921504606846975), num(-1152921504606846976),
		{K: api.DBool}, {K: api.DBool, N: 1},
		{K: api.DChar}, {K: api.DChar, N: 1}, {K: api.DChar, N: 'a'}, {K: api.DChar, N: 127},
		str(""), str("a"), str("a b\n\"\\"), str("\x00\x7f"), str(strings.Repeat("s", 256)),
		sym("a"), sym("x", 1), sym("x", 2, 1, 2), sym("..."), sym("+"), sym("a", 1<<20), sym("x", ones(16)...),
		sym(strings.Repeat("y", 32), slices.Repeat([]int{1 << 20}, 16)...),
		list(), list(num(1)), list(num(1), num(2)), list(list(), vec()), list(row(4095)...),
		vec(), vec(num(1)), vec(list(sym("a", 3)), str("b")), vec(append(row(4094), sym("last", 6))...),
		dot(num(2), num(1)), dot(sym("c", 4), sym("a", 1), list(sym("b", 2))), dot(vec(list()), list()),
		dot(str("t"), row(4094)...), dot(vec(row(2000)...), row(2094)...),
		nest(63, num(1)), nest(63, list()), nest(61, list(num(1), nest(1, num(1)), num(3))),
		nest(62, dot(num(2), num(1))), nest(62, vec(sym("a", 1))),
		list(sym("if"), list(sym("="), sym("x", 7), num(0)), dot(sym("more"), sym("a"), sym("b")), str("no")),
		{K: api.DList, M: []int{}, L: []api.Datum{}, T: []api.Datum{}},
		{K: api.DFix, N: 3, M: []int{}, L: []api.Datum{}, T: []api.Datum{}},
		{K: api.DDot, M: []int{}, L: []api.Datum{num(1)}, T: []api.Datum{num(2)}},
	}
	chain := num(9) // as deep as may be, by tails alone
	for range 31 {
		chain = dot(vec(chain), num(1))
	}
	l = append(l, chain)
	return append(l, grown(150)...)
}

// alone are data that are invalid by themselves.
func alone() []api.Datum {
	l := []api.Datum{
		{}, {K: -1}, {K: 9}, {K: 1 << 40}, {N: 1}, {S: "a"}, {L: row(1)}, {K: 9, L: row(2)},
		num(1152921504606846976), num(-1152921504606846977), num(1<<63 - 1), num(-1 << 63),
		{K: api.DBool, N: 2}, {K: api.DBool, N: -1}, {K: api.DBool, N: 1 << 32},
		{K: api.DChar, N: 128}, {K: api.DChar, N: -1}, {K: api.DChar, N: 1 << 32},
		str("\x80"), str("a\xff"), str("\u00e9"), str(strings.Repeat("s", 257)), str(strings.Repeat("s", 255) + "\u00e9"),
		sym(""), sym("1"), sym("a b"), sym("-a"), sym(".."), sym("\u00e9"), sym(strings.Repeat("y", 33)),
		sym("a", 0), sym("a", -1), sym("a", 1<<20+1), sym("a", 1, 0), sym("a", 1, 2, 1<<20+1), sym("a", 1<<40), sym("a", ones(17)...),
		dot(num(1)), {K: api.DDot}, {K: api.DDot, L: row(1)}, {K: api.DDot, L: row(1), T: row(2)}, {K: api.DDot, T: row(2)},
		dot(list(), num(1)), dot(list(num(2)), num(1)), dot(dot(num(3), num(2)), num(1)),
		dot(api.Datum{K: api.DList, N: 1}, num(1)), dot(api.Datum{K: api.DDot}, num(1)),
	}
	// A field that the kind doesn't mention.
	for _, d := range []api.Datum{num(5), {K: api.DBool, N: 1}, {K: api.DChar, N: 65}, str("s"), sym("y", 1), list(num(1)), list(), dot(num(2), num(1)), vec(num(1)), vec()} {
		if d.K != api.DFix && d.K != api.DBool && d.K != api.DChar {
			for _, n := range []int64{1, -1, 1 << 32} {
				l = append(l, with(d, func(d *api.Datum) { d.N = n }))
			}
		}
		if d.K != api.DStr && d.K != api.DSym {
			l = append(l, with(d, func(d *api.Datum) { d.S = "a" }))
		}
		if d.K != api.DSym {
			l = append(l, with(d, func(d *api.Datum) { d.M = []int{1} }), with(d, func(d *api.Datum) { d.M = []int{0} }))
		}
		if d.K < api.DList {
			l = append(l, with(d, func(d *api.Datum) { d.L = row(1) }))
		}
		if d.K != api.DDot {
			l = append(l, with(d, func(d *api.Datum) { d.T = row(1) }))
		}
	}
	return l
}

func with(d api.Datum, change func(d *api.Datum)) api.Datum {
	change(&d)
	return d
}

// flawed is an invalid datum, and what Check has to answer for it.
type flawed struct {
	what string
	d    api.Datum
	e    api.Errno
}

// invalid are invalid data of all sorts; each call makes them anew.
func invalid() []flawed {
	bad := api.Datum{K: api.DBool, N: 2}
	l := []flawed{
		{"one too deep", nest(64, num(1)), api.ErrDeep},
		{"far too deep", nest(5000, num(1)), api.ErrDeep},
		{"too deep by a vector", nest(63, vec(num(1))), api.ErrDeep},
		{"too deep by a tail", nest(62, dot(vec(num(2)), num(1))), api.ErrDeep},
		{"too deep in a tail", nest(63, dot(num(2), num(1))), api.ErrDeep},
		{"without end", round(), api.ErrDeep},
		{"one too many", list(row(4096)...), api.ErrLong},
		{"one too many in a vector", vec(row(4096)...), api.ErrLong},
		{"one too many with the tail", dot(num(1), row(4095)...), api.ErrLong},
		{"one too many in the tail", dot(vec(row(2000)...), row(2095)...), api.ErrLong},
		{"one too many further in", list(append(row(4000), list(row(95)...))...), api.ErrLong},
		{"far too many", bush(63), api.ErrLong},
		{"too deep and invalid", nest(64, bad), api.ErrDeep},
		{"too deep and too many", list(append(row(4032), nest(63, num(1)))...), api.ErrDeep},
		{"too many and invalid", list(append(row(4095), bad)...), api.ErrLong},
		{"too many just ahead of too deep", list(append(row(4033), nest(63, num(1)))...), api.ErrLong},
		{"invalid, the last that is let through", list(append(row(4094), bad, num(1))...), api.ErrDatum},
		{"invalid ahead of too many", list(append([]api.Datum{bad}, row(5000)...)...), api.ErrDatum},
		{"invalid ahead of too deep", list(bad, nest(70, num(1))), api.ErrDatum},
		{"too deep ahead of invalid", list(nest(70, num(1)), bad), api.ErrDeep},
		{"too deep ahead of too many", list(append([]api.Datum{nest(70, num(1))}, row(5000)...)...), api.ErrDeep},
		{"too many ahead of too deep", list(append(row(5000), nest(70, num(1)))...), api.ErrLong},
		{"a list ahead of what is in it", api.Datum{K: api.DList, N: 1, L: []api.Datum{nest(70, num(1))}}, api.ErrDatum},
		{"an improper list ahead of what is in it", dot(list(), nest(70, num(1))), api.ErrDatum},
		{"no kind, with something in it", api.Datum{L: []api.Datum{nest(70, num(1))}}, api.ErrDatum},
		{"elements ahead of the tail: too deep", dot(bad, nest(70, num(1))), api.ErrDeep},
		{"elements ahead of the tail: invalid", dot(vec(nest(70, num(1))), bad), api.ErrDatum},
		{"the tail", dot(vec(nest(70, num(1))), num(1)), api.ErrDeep},
	}
	for _, d := range alone() {
		l = append(l,
			flawed{"alone", d, api.ErrDatum},
			flawed{"as an element", list(num(1), d), api.ErrDatum},
			flawed{"as an element of a vector", list(vec(num(1), d), num(1)), api.ErrDatum},
			flawed{"as an element ahead of a tail", dot(num(1), d), api.ErrDatum},
			flawed{"as a tail", dot(d, num(1)), api.ErrDatum},
			flawed{"at the bottom", nest(63, d), api.ErrDatum},
			flawed{"below the bottom", nest(64, d), api.ErrDeep})
	}
	return l
}

// grown are mixed valid data, the same ones each time.
func grown(count int) []api.Datum {
	g := &grower{seed: 88172645463325252}
	l := make([]api.Datum, count)
	for i := range l {
		l[i] = g.datum(i % 7)
	}
	return l
}

type grower struct{ seed uint64 }

func (g *grower) pick(below int) int {
	g.seed ^= g.seed << 13
	g.seed ^= g.seed >> 7
	g.seed ^= g.seed << 17
	return int(g.seed>>11) % below
}

// datum has at most so many levels below its own.
func (g *grower) datum(levels int) api.Datum {
	kinds := 8
	if levels == 0 {
		kinds = 5
	}
	switch 1 + g.pick(kinds) {
	case api.DFix:
		return num(int64(g.pick(2000)) - 1000)
	case api.DBool:
		return api.Datum{K: api.DBool, N: int64(g.pick(2))}
	case api.DChar:
		return api.Datum{K: api.DChar, N: int64(g.pick(128))}
	case api.DStr:
		return str(strings.Repeat("ab", g.pick(4)))
	case api.DSym:
		return sym([]string{"a", "b", "if", "+", "..."}[g.pick(5)], ones(g.pick(3))...)
	case api.DList:
		return list(g.data(levels, g.pick(4))...)
	case api.DVec:
		return vec(g.data(levels, g.pick(4))...)
	}
	end := g.datum(levels - 1)
	if end.K == api.DList || end.K == api.DDot {
		end = vec(end.L...)
	}
	return dot(end, g.data(levels, 1+g.pick(3))...)
}

func (g *grower) data(levels, count int) []api.Datum {
	l := make([]api.Datum, count)
	for i := range l {
		l[i] = g.datum(levels - 1)
	}
	return l
}

// even tells whether two data have equal fields, node by node; valid ones or not.
func even(a, b api.Datum) bool {
	if a.K != b.K || a.N != b.N || a.S != b.S || len(a.M) != len(b.M) || len(a.L) != len(b.L) || len(a.T) != len(b.T) {
		return false
	}
	for i := range a.M {
		if a.M[i] != b.M[i] {
			return false
		}
	}
	for i := range a.L {
		if !even(a.L[i], b.L[i]) {
			return false
		}
	}
	for i := range a.T {
		if !even(a.T[i], b.T[i]) {
			return false
		}
	}
	return true
}

// none tells whether a datum is the zero Datum.
func none(d api.Datum) bool {
	return d.K == 0 && d.N == 0 && d.S == "" && len(d.M) == 0 && len(d.L) == 0 && len(d.T) == 0
}

// parts are the nodes of a datum, in order.
func parts(d api.Datum) []api.Datum {
	l := []api.Datum{d}
	for _, x := range d.L {
		l = append(l, parts(x)...)
	}
	for _, x := range d.T {
		l = append(l, parts(x)...)
	}
	return l
}

func depth(d api.Datum) int {
	below := 0
	for _, l := range [][]api.Datum{d.L, d.T} {
		for _, x := range l {
			below = max(below, depth(x))
		}
	}
	return 1 + below
}

// brief is a datum's beginning, for messages: those of whole data would be endless.
func brief(d any) string {
	s := fmt.Sprint(d)
	return s[:min(len(s), 200)]
}

// collect are the data that All yields.
func collect(d api.Datum) []api.Datum {
	var l []api.Datum
	for x := range datum.All(d) {
		l = append(l, x)
	}
	return l
}

// scribble writes over all the memory that a datum has, and what its slices could grow into.
func scribble(l ...api.Datum) {
	for _, d := range l {
		for i := range d.M[:cap(d.M)] {
			d.M[:cap(d.M)][i] = 77
		}
		for _, inner := range [][]api.Datum{d.L[:cap(d.L)], d.T[:cap(d.T)]} {
			scribble(inner...)
			for i := range inner {
				inner[i] = api.Datum{K: 77}
			}
		}
	}
}

// shares tells whether two lists in these data begin at the same place.
func shares(l ...api.Datum) bool {
	marks, lists := map[*int]bool{}, map[*api.Datum]bool{}
	for _, d := range l {
		for _, x := range parts(d) {
			if len(x.M) > 0 {
				if marks[&x.M[0]] {
					return true
				}
				marks[&x.M[0]] = true
			}
			for _, inner := range [][]api.Datum{x.L, x.T} {
				if len(inner) > 0 {
					if lists[&inner[0]] {
						return true
					}
					lists[&inner[0]] = true
				}
			}
		}
	}
	return false
}
