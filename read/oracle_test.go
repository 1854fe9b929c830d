package read_test

import (
	"strconv"
	"strings"

	"shuttle/api"
	"shuttle/datum"
	"shuttle/lex"
	"shuttle/read"
)

// A reader by recursive descent and a printer of its own, against which the tests hold the package, and the data and texts that they go through.

func num(n int64) api.Datum            { return api.Datum{K: api.DFix, N: n} }
func char(n int64) api.Datum           { return api.Datum{K: api.DChar, N: n} }
func truth(n int64) api.Datum          { return api.Datum{K: api.DBool, N: n} }
func str(s string) api.Datum           { return api.Datum{K: api.DStr, S: s} }
func sym(s string, m ...int) api.Datum { return api.Datum{K: api.DSym, S: s, M: m} }
func list(l ...api.Datum) api.Datum    { return api.Datum{K: api.DList, L: l} }
func vec(l ...api.Datum) api.Datum     { return api.Datum{K: api.DVec, L: l} }
func dot(t api.Datum, l ...api.Datum) api.Datum {
	return api.Datum{K: api.DDot, L: l, T: []api.Datum{t}}
}

// nest is x within so many lists.
func nest(lists int, x api.Datum) api.Datum {
	for range lists {
		x = list(x)
	}
	return x
}

// within is a text between so many of these.
func within(before string, count int, s, after string) string {
	return strings.Repeat(before, count) + s + strings.Repeat(after, count)
}

// fault is where the oracle found that a text is not as it has to be.
type fault struct {
	at int
	e  api.Errno
}

// descent reads by calling itself for what is within; begun are the places of what goes on where it has come to.
type descent struct {
	tokens []api.Token
	begun  []int
}

// oracle is what Read has to answer.
func oracle(s string) (l []api.Form, at int, e api.Errno) {
	tokens, at, e := lex.Words(s)
	if e != api.OK {
		return nil, at, e
	}
	defer func() {
		if x := recover(); x != nil {
			l, at, e = nil, x.(fault).at, x.(fault).e
		}
	}()
	p := &descent{tokens: tokens}
	for len(p.tokens) > 0 {
		at := p.tokens[0].At
		if len(l) == 256 {
			panic(fault{at, api.ErrLong})
		}
		d := p.datum()
		if e := datum.Check(d); e != api.OK {
			panic(fault{at, e})
		}
		l = append(l, api.Form{At: at, D: d})
	}
	return l, 0, api.OK
}

func (p *descent) peek() api.Token {
	if len(p.tokens) == 0 {
		panic(fault{p.begun[len(p.begun)-1], api.ErrOpen})
	}
	return p.tokens[0]
}

func (p *descent) next() api.Token {
	t := p.peek()
	p.tokens = p.tokens[1:]
	return t
}

func (p *descent) datum() api.Datum {
	t := p.next()
	words := map[int]string{4: "quote", 5: "quasiquote", 6: "unquote", 7: "unquote-splicing"}
	kinds := map[int]int{9: 1, 10: 2, 11: 3, 12: 4, 13: 5}
	if k, there := kinds[t.K]; there {
		return api.Datum{K: k, N: t.N, S: t.S}
	}
	p.begun = append(p.begun, t.At)
	defer func() { p.begun = p.begun[:len(p.begun)-1] }()
	if w, there := words[t.K]; there {
		return list(sym(w), p.datum())
	}
	if t.K != api.TkOpen && t.K != api.TkVec {
		panic(fault{t.At, api.ErrClose})
	}
	var l []api.Datum
	for p.peek().K != api.TkClose {
		if t.K == api.TkOpen && len(l) > 0 && p.peek().K == api.TkDot {
			p.next()
			return p.tail(l)
		}
		l = append(l, p.datum())
	}
	p.next()
	if t.K == api.TkVec {
		return vec(l...)
	}
	return list(l...)
}

// tail reads what is behind the dot that follows these elements.
func (p *descent) tail(l []api.Datum) api.Datum {
	d := p.datum()
	if t := p.next(); t.K != api.TkClose {
		panic(fault{t.At, api.ErrClose})
	}
	switch d.K {
	case api.DList:
		return list(append(l, d.L...)...)
	case api.DDot:
		return dot(d.T[0], append(l, d.L...)...)
	}
	return dot(d, l...)
}

// printed is what Print has to answer for a valid datum, whatever its length.
func printed(d api.Datum) string {
	all := make([]string, len(d.L))
	for i, x := range d.L {
		all[i] = printed(x)
	}
	inside := strings.Join(all, " ")
	switch d.K {
	case api.DFix:
		return strconv.FormatInt(d.N, 10)
	case api.DBool:
		return []string{"#f", "#t"}[d.N]
	case api.DChar, api.DStr:
		s, _ := lex.Text(api.Token{K: map[int]int{api.DChar: api.TkChar, api.DStr: api.TkStr}[d.K], N: d.N, S: d.S})
		return s
	case api.DSym:
		return d.S
	case api.DVec:
		return "#(" + inside + ")"
	case api.DDot:
		return "(" + inside + " . " + printed(d.T[0]) + ")"
	}
	if len(d.L) == 2 && d.L[0].K == api.DSym {
		switch d.L[0].S {
		case "quote":
			return "'" + all[1]
		case "quasiquote":
			return "`" + all[1]
		case "unquote":
			return "," + all[1]
		case "unquote-splicing":
			return ",@" + all[1]
		}
	}
	return "(" + inside + ")"
}

// picker picks numbers from 0 on, below another; from the same seed the same ones.
func picker(seed uint64) func(below int) int {
	return func(below int) int {
		seed = seed*6364136223846793005 + 1442695040888963407
		return int(seed>>33) % below
	}
}

// grower makes data, and texts that mean them.
type grower struct{ pick func(below int) int }

// grown are mixed valid data with marks, the same ones each time.
func grown(seed uint64, count int) []api.Datum {
	g := grower{picker(seed)}
	l := make([]api.Datum, count)
	for i := range l {
		l[i] = g.datum(i % 7)
	}
	return l
}

// datum has at most so many levels below its own.
func (g grower) datum(levels int) api.Datum {
	kinds := 10
	if levels == 0 {
		kinds = 5
	}
	switch g.pick(kinds) {
	case 0:
		return num(int64(g.pick(4000)) - 2000)
	case 1:
		return truth(int64(g.pick(2)))
	case 2:
		return char(int64(g.pick(128)))
	case 3:
		b := make([]byte, g.pick(5))
		for i := range b {
			b[i] = byte(g.pick(128))
		}
		return str(string(b))
	case 4:
		names := []string{"a", "b", "if", "+", "-", "...", "x.y@", "quote", "unquote", "list->vector"}
		return sym(names[g.pick(len(names))], g.marks()...)
	case 5, 6:
		return list(g.data(levels, g.pick(4))...)
	case 7:
		return vec(g.data(levels, g.pick(4))...)
	case 8:
		words := []string{"quote", "quasiquote", "unquote", "unquote-splicing"}
		return list(sym(words[g.pick(4)], g.marks()...), g.datum(levels-1))
	}
	end := g.datum(levels - 1)
	if end.K == api.DList || end.K == api.DDot {
		end = vec(end.L...)
	}
	return dot(end, g.data(levels, 1+g.pick(3))...)
}

func (g grower) data(levels, count int) []api.Datum {
	l := make([]api.Datum, count)
	for i := range l {
		l[i] = g.datum(levels - 1)
	}
	return l
}

func (g grower) marks() []int {
	l := make([]int, g.pick(3))
	for i := range l {
		l[i] = 1 + g.pick(1<<20)
	}
	return l
}

// blank is what may stand between two tokens.
func (g grower) blank() string {
	return []string{" ", "  ", "\n", "\t\r", " ; ) .\n", " #| ( #||# |# "}[g.pick(6)]
}

// text is a text of a datum, of the many that it has.
func (g grower) text(d api.Datum) string {
	rest := func(l []api.Datum) api.Datum {
		if len(d.T) > 0 {
			return dot(d.T[0], l...)
		}
		return list(l...)
	}
	switch {
	case d.K < api.DList:
		return printed(d)
	case d.K == api.DList && len(d.L) == 2 && printed(d)[0] != '(' && g.pick(2) == 0:
		word, inner := strings.TrimSuffix(printed(d), printed(d.L[1])), g.text(d.L[1])
		return word + strings.Repeat(g.blank(), g.pick(2)) + inner
	}
	before := "(" + strings.Repeat(g.blank(), g.pick(2))
	if d.K == api.DVec {
		before = "#" + before
	}
	var b strings.Builder
	b.WriteString(before)
	for i, x := range d.L {
		b.WriteString(g.text(x) + g.blank())
		if d.K != api.DVec && g.pick(6) == 0 && (d.K == api.DList || i < len(d.L)-1) { // what is left may stand as a tail
			b.WriteString("." + g.blank() + g.text(rest(d.L[i+1:])) + strings.Repeat(g.blank(), g.pick(2)) + ")")
			return b.String()
		}
	}
	if len(d.T) > 0 {
		b.WriteString("." + g.blank() + g.text(d.T[0]) + strings.Repeat(g.blank(), g.pick(2)))
	}
	return b.String() + ")"
}

// even tells whether two data have equal fields, node by node.
func even(a, b api.Datum) bool {
	if a.K != b.K || a.N != b.N || a.S != b.S || len(a.M) != len(b.M) || len(a.L) != len(b.L) || len(a.T) != len(b.T) {
		return false
	}
	for i := range a.M {
		if a.M[i] != b.M[i] {
			return false
		}
	}
	for i := range a.L {
		if !even(a.L[i], b.L[i]) {
			return false
		}
	}
	for i := range a.T {
		if !even(a.T[i], b.T[i]) {
			return false
		}
	}
	return true
}

func alike(a, b api.Form) bool { return a.At == b.At && even(a.D, b.D) }

// none tells whether a datum is the zero Datum.
func none(d api.Datum) bool {
	return d.K == 0 && even(d, api.Datum{})
}

// bare is a datum without marks.
func bare(d api.Datum) api.Datum {
	d.M = nil
	for _, l := range []*[]api.Datum{&d.L, &d.T} {
		plain := make([]api.Datum, len(*l))
		for i, x := range *l {
			plain[i] = bare(x)
		}
		*l = plain
	}
	return d
}

// collect are the data that Forms yields.
func collect(s string) []api.Form {
	var l []api.Form
	for at, d := range read.Forms(s) {
		l = append(l, api.Form{At: at, D: d})
	}
	return l
}
