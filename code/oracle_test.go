package code_test

import (
	"bytes"
	"slices"
	"strconv"
	"strings"
	"testing"

	"shuttle/api"
	"shuttle/code"
	"shuttle/datum"
	"shuttle/read"
)

// Programs by the words of the definitions alone, against which the tests hold the package.

// table is the chapter's: for each instruction, from 1 on, its name, what A is, how many values it pops and pushes.
const table = `const constant 0 1
local parameter 0 1
capt capture 0 1
global name 0 1
box parameter 0 0
unbox - 1 1
setbox - 2 1
assign name 1 1
define name 1 1
jump later 0 0
false later 1 0
closure code B 1
call count A+1 1
tail count A+1 -
return - 1 -
pop - 1 0`

var rows = func() [][]string {
	l := [][]string{nil}
	for s := range strings.Lines(table) {
		l = append(l, strings.Fields(s))
	}
	return l
}()

// row is an instruction's row of the table, nil if it has none.
func row(op int) []string {
	if op < 0 || op >= len(rows) {
		return nil
	}
	return rows[op]
}

// asm are the instructions of a text such as "const 0, closure 1 2, return".
func asm(s string) []api.Ins {
	var l []api.Ins
	for part := range strings.SplitSeq(s, ",") {
		words := strings.Fields(part)
		op := 1
		for row(op)[0] != words[0] {
			op++
		}
		numbers := []int{0, 0}
		for i, w := range words[1:] {
			numbers[i], _ = strconv.Atoi(w)
		}
		l = append(l, api.Ins{Op: op, A: numbers[0], B: numbers[1]})
	}
	return l
}

// body is a code of these instructions, with the Max that it has to have if they are consistent.
func body(params, rest, caps int, s string) api.Code {
	return measured(api.Code{Params: params, Rest: rest, Caps: caps, Ins: asm(s)})
}

func measured(c api.Code) api.Code {
	_, c.Max, _ = stack(c)
	return c
}

func num(n int64) api.Datum            { return api.Datum{K: api.DFix, N: n} }
func sym(s string, m ...int) api.Datum { return api.Datum{K: api.DSym, S: s, M: m} }
func str(s string) api.Datum           { return api.Datum{K: api.DStr, S: s} }
func list(l ...api.Datum) api.Datum    { return api.Datum{K: api.DList, L: l} }
func vec(l ...api.Datum) api.Datum     { return api.Datum{K: api.DVec, L: l} }
func dot(t api.Datum, l ...api.Datum) api.Datum {
	return api.Datum{K: api.DDot, L: l, T: []api.Datum{t}}
}

func with(p api.Prog, change func(p *api.Prog)) api.Prog {
	p = copied(p)
	change(&p)
	return p
}

// copied is a program with all its memory its own, if its data have an end.
func copied(p api.Prog) api.Prog {
	p.Codes, p.Names, p.Consts = slices.Clone(p.Codes), slices.Clone(p.Names), copiedData(p.Consts)
	for i := range p.Codes {
		p.Codes[i].Ins = slices.Clone(p.Codes[i].Ins)
	}
	return p
}

func copiedData(l []api.Datum) []api.Datum {
	l = slices.Clone(l)
	for i := range l {
		l[i].M, l[i].L, l[i].T = slices.Clone(l[i].M), copiedData(l[i].L), copiedData(l[i].T)
	}
	return l
}

// equal tells whether two programs have the same in all fields, whatever data they have.
func equal(a, b api.Prog) bool {
	return slices.Equal(a.Names, b.Names) && slices.EqualFunc(a.Consts, b.Consts, equalDatum) && slices.EqualFunc(a.Codes, b.Codes, func(x, y api.Code) bool {
		return x.Params == y.Params && x.Rest == y.Rest && x.Caps == y.Caps && x.Max == y.Max && slices.Equal(x.Ins, y.Ins)
	})
}

func equalDatum(a, b api.Datum) bool {
	return a.K == b.K && a.N == b.N && a.S == b.S && slices.Equal(a.M, b.M) && slices.EqualFunc(a.L, b.L, equalDatum) && slices.EqualFunc(a.T, b.T, equalDatum)
}

// legal tells whether a program is valid.
func legal(p api.Prog) bool {
	if len(p.Codes) < 1 || len(p.Codes) > 1024 || len(p.Consts) > 1024 || len(p.Names) > 1024 {
		return false
	}
	for i, d := range p.Consts {
		if datum.Check(d) != api.OK || hasMarks(d) {
			return false
		}
		for _, e := range p.Consts[:i] {
			if datum.Same(d, e) {
				return false
			}
		}
	}
	for i, s := range p.Names {
		if !datum.Symbol(s) || slices.Contains(p.Names[:i], s) {
			return false
		}
	}
	if p.Codes[0].Params != 0 || p.Codes[0].Caps != 0 {
		return false
	}
	for _, c := range p.Codes {
		if !legalCode(p, c) {
			return false
		}
	}
	return true
}

func hasMarks(d api.Datum) bool {
	found := len(d.M) > 0
	for _, l := range [][]api.Datum{d.L, d.T} {
		for _, x := range l {
			found = found || hasMarks(x)
		}
	}
	return found
}

func legalCode(p api.Prog, c api.Code) bool {
	if c.Params < 0 || c.Params > 32 || c.Caps < 0 || c.Caps > 64 || len(c.Ins) < 1 || len(c.Ins) > 4096 {
		return false
	}
	if c.Rest != 0 && (c.Rest != 1 || c.Params == 0) {
		return false
	}
	for i := range c.Ins {
		if !legalIns(p, c, i) {
			return false
		}
	}
	_, most, ok := stack(c)
	return ok && c.Max == most && most <= 256
}

func legalIns(p api.Prog, c api.Code, i int) bool {
	in := c.Ins[i]
	r := row(in.Op)
	if r == nil {
		return false
	}
	counts := map[string]int{"constant": len(p.Consts), "parameter": c.Params, "capture": c.Caps, "name": len(p.Names), "later": len(c.Ins), "code": len(p.Codes), "count": 33, "-": 1}
	if in.A < 0 || in.A >= counts[r[1]] || r[1] == "later" && in.A <= i {
		return false
	}
	if r[1] == "code" {
		return in.A > 0 && in.B == p.Codes[in.A].Caps
	}
	return in.B == 0
}

func popped(in api.Ins) int {
	switch s := row(in.Op)[2]; s {
	case "B":
		return in.B
	case "A+1":
		return in.A + 1
	default:
		n, _ := strconv.Atoi(s)
		return n
	}
}

func pushed(in api.Ins) int {
	n, _ := strconv.Atoi(row(in.Op)[3]) // 0 of one that continues nowhere
	return n
}

// onward are the indices of the instructions at which the one at i continues.
func onward(c api.Code, i int) []int {
	switch row(c.Ins[i].Op)[0] {
	case "jump":
		return []int{c.Ins[i].A}
	case "false":
		return []int{i + 1, c.Ins[i].A}
	case "tail", "return":
		return nil
	}
	return []int{i + 1}
}

// stack are the depths before the instructions of a code, the greatest depth, and whether they are consistent.
func stack(c api.Code) ([]int, int, bool) {
	leads := map[int][]int{0: {0}} // to which depths the instructions lead that continue at this one
	var before []int
	most := 0
	for i, in := range c.Ins {
		if len(leads[i]) == 0 || slices.Max(leads[i]) != slices.Min(leads[i]) {
			return nil, 0, false
		}
		d := leads[i][0]
		if d < popped(in) || row(in.Op)[3] == "-" && d != popped(in) {
			return nil, 0, false
		}
		before = append(before, d)
		after := d - popped(in) + pushed(in)
		most = max(most, d, after)
		for _, to := range onward(c, i) {
			leads[to] = append(leads[to], after)
		}
	}
	return before, most, len(leads[len(c.Ins)]) == 0
}

// lines are what Lines yields of a valid program's code.
func lines(c api.Code) []string {
	var l []string
	for i, in := range c.Ins {
		words := []string{strconv.Itoa(i), row(in.Op)[0]}
		if row(in.Op)[1] != "-" {
			words = append(words, strconv.Itoa(in.A))
		}
		if row(in.Op)[0] == "closure" {
			words = append(words, strconv.Itoa(in.B))
		}
		l = append(l, strings.Join(words, " "))
	}
	return l
}

// spell is the binary form that a program would have, valid or not, if the texts of its constants are these.
func spell(p api.Prog, texts []string) []byte {
	var b []byte
	number := func(n int) { b = append(b, byte(n/256), byte(n%256)) }
	text := func(s string) {
		number(len(s))
		b = append(b, s...)
	}
	number(len(texts))
	for _, s := range texts {
		text(s)
	}
	number(len(p.Names))
	for _, s := range p.Names {
		text(s)
	}
	number(len(p.Codes))
	for _, c := range p.Codes {
		number(c.Params)
		number(c.Rest)
		number(c.Caps)
		number(c.Max)
		number(len(c.Ins))
		for _, in := range c.Ins {
			number(in.Op)
			number(in.A)
			number(in.B)
		}
	}
	return b
}

// printed are the texts of constants, whether all have one, and whether all are read from it.
func printed(l []api.Datum) (texts []string, have, read1 bool) {
	have, read1 = true, true
	for _, d := range l {
		s, e := read.Print(d)
		_, f := read.One(s)
		texts = append(texts, s)
		have, read1 = have && e == api.OK, read1 && f == api.OK
	}
	return texts, have, read1
}

// none tells whether a program is the zero value.
func none(p api.Prog) bool { return equal(p, api.Prog{}) }

// holds compares everything that the package tells of a program with what the definitions say, and tells whether that is valid.
func holds(t *testing.T, p api.Prog) bool {
	t.Helper()
	kept, is := copied(p), legal(p)
	want := api.OK
	if !is {
		want = api.ErrCode
	}
	if e := code.Check(p); e != want {
		t.Fatalf("Check of %s: %d, not %d", brief(p), int(e), int(want))
	}
	for k := -1; k <= min(len(p.Codes), 20); k++ {
		holdsCode(t, p, k, want)
	}
	holdsBytes(t, p, want)
	valid := !slices.ContainsFunc(p.Consts, func(d api.Datum) bool { return datum.Check(d) != api.OK })
	if c := code.Clone(p); !equal(c, p) || code.Same(p, c) != valid || code.Same(c, p) != valid {
		t.Fatalf("Clone or Same of %s", brief(p))
	}
	if !equal(p, kept) {
		t.Fatalf("an argument has changed: %s", brief(kept))
	}
	return is
}

func holdsCode(t *testing.T, p api.Prog, k int, want api.Errno) {
	t.Helper()
	var depths []int
	var texts []string
	switch {
	case want != api.OK:
	case k < 0 || k >= len(p.Codes):
		want = api.ErrNone
	default:
		depths, _, _ = stack(p.Codes[k])
		texts = lines(p.Codes[k])
	}
	if l, e := code.Depths(p, k); e != want || !slices.Equal(l, depths) {
		t.Fatalf("Depths of %s at %d: %v, %d, not %v, %d", brief(p), k, l, int(e), depths, int(want))
	}
	if l := slices.Collect(code.Lines(p, k)); !slices.Equal(l, texts) {
		t.Fatalf("Lines of %s at %d: %q, not %q", brief(p), k, l, texts)
	}
}

func holdsBytes(t *testing.T, p api.Prog, want api.Errno) {
	t.Helper()
	texts, have, back := printed(p.Consts)
	b, e := code.Bytes(p)
	switch {
	case want != api.OK:
		if e != want || b != nil {
			t.Fatalf("Bytes of %s: %d", brief(p), int(e))
		}
		return
	case !have:
		if e != api.ErrLong || b != nil {
			t.Fatalf("Bytes of %s: %d", brief(p), int(e))
		}
		return
	case e != api.OK || !bytes.Equal(b, spell(p, texts)):
		t.Fatalf("Bytes of %s: %v, %d", brief(p), b, int(e))
	}
	q, f := code.Parse(b)
	if back && (f != api.OK || !equal(q, p)) || !back && (f != api.ErrBytes || !none(q)) {
		t.Fatalf("Parse of Bytes of %s: %s, %d", brief(p), brief(q), int(f))
	}
}

// brief is a text that tells what a program is, if it is small.
func brief(p api.Prog) string {
	var b strings.Builder
	for i, c := range p.Codes {
		if i == 6 {
			b.WriteString(" ..")
			break
		}
		b.WriteString("[")
		for _, n := range []int{c.Params, c.Rest, c.Caps, c.Max} {
			b.WriteString(strconv.Itoa(n) + " ")
		}
		for j, in := range c.Ins {
			if j == 20 {
				b.WriteString("..")
				break
			}
			b.WriteString("| " + strings.Join(append(row(in.Op), "?")[:1], "") + " " + strconv.Itoa(in.A) + " " + strconv.Itoa(in.B) + " ")
		}
		b.WriteString("]")
	}
	return b.String() + " with " + strconv.Itoa(len(p.Consts)) + " constants, " + strconv.Itoa(len(p.Names)) + " names"
}
