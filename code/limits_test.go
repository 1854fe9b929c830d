package code_test

import (
	"math"
	"slices"
	"strconv"
	"strings"
	"testing"

	"shuttle/api"
	"shuttle/code"
)

// repeat is a text so many times, then another one.
func repeat(count int, s, end string) string { return strings.Repeat(s+", ", count) + end }

func numbers(count int) []api.Datum {
	l := make([]api.Datum, count)
	for i := range l {
		l[i] = num(int64(i))
	}
	return l
}

func symbols(count int) []string {
	l := make([]string, count)
	for i := range l {
		l[i] = "n" + strconv.Itoa(i)
	}
	return l
}

func codes(l ...api.Code) api.Prog {
	return api.Prog{Consts: numbers(3), Names: symbols(2), Codes: l}
}

// P9.1: MaxCodes, MaxIns, MaxConsts, MaxStack, MaxCaps and MaxParams, and what is one beyond.
func TestLimits(t *testing.T) {
	t.Parallel()
	small := body(0, 0, 0, "const 0, return")
	many := func(count int) []api.Code { return slices.Repeat([]api.Code{small}, count) }
	jumps := ""
	for i := range 4094 {
		jumps += "jump " + strconv.Itoa(i+1) + ", "
	}
	for _, x := range []struct {
		what string
		is   bool
		p    api.Prog
	}{
		{"as many codes as may be", true, codes(many(1024)...)},
		{"one code too many", false, codes(many(1025)...)},
		{"a procedure of the last code that may be", true, codes(append([]api.Code{body(0, 0, 0, "closure 1023 0, return")}, many(1023)...)...)},
		{"a procedure of a code too many", false, codes(append([]api.Code{body(0, 0, 0, "closure 1024 0, return")}, many(1024)...)...)},

		{"as many constants as may be", true, api.Prog{Consts: numbers(1024), Codes: []api.Code{body(0, 0, 0, "const 1023, return")}}},
		{"one constant too many", false, api.Prog{Consts: numbers(1025), Codes: many(1)}},
		{"as many names as may be", true, api.Prog{Names: symbols(1024), Codes: []api.Code{body(0, 0, 0, "global 1023, return")}}},
		{"one name too many", false, api.Prog{Names: symbols(1025), Codes: []api.Code{body(0, 0, 0, "global 0, return")}}},
		{"as many constants and names as may be", true, api.Prog{Consts: numbers(1024), Names: symbols(1024), Codes: many(1)}},
		{"as many constants as may be, the last as the first", false, api.Prog{Consts: append(numbers(1023), num(0)), Codes: many(1)}},
		{"as many names as may be, the last as the first", false, api.Prog{Consts: numbers(1), Names: append(symbols(1023), "n0"), Codes: many(1)}},

		{"as many instructions as may be", true, codes(body(0, 0, 0, repeat(2047, "const 0, pop", "const 0, return")))},
		{"one instruction too many", false, codes(body(0, 0, 0, "jump 1, "+repeat(2047, "const 0, pop", "const 0, return")))},
		{"one instruction too many in the last code", false, codes(small, body(0, 0, 0, "jump 1, "+repeat(2047, "const 0, pop", "const 0, return")))},
		{"as many jumps as may be", true, codes(body(0, 0, 0, jumps+"const 0, return"))},
		{"a jump to the last instruction that may be", true, codes(body(0, 0, 0, "const 0, const 0, false 4095, "+repeat(2046, "const 0, pop", "return")))},

		{"as many values as may be", true, codes(body(0, 0, 0, repeat(256, "const 0", repeat(255, "pop", "return"))))},
		{"one value too many", false, codes(body(0, 0, 0, repeat(257, "const 0", repeat(256, "pop", "return"))))},
		{"one value too many, and the greatest Max", false, with(codes(body(0, 0, 0, repeat(257, "const 0", repeat(256, "pop", "return")))), func(p *api.Prog) { p.Codes[0].Max = 256 })},
		{"as many values as may be in the last code", true, codes(small, body(0, 0, 0, repeat(256, "const 0", repeat(255, "setbox", "return"))))},
		{"one value too many in the last code", false, codes(small, body(0, 0, 0, repeat(257, "const 0", repeat(256, "setbox", "return"))))},

		{"as many captures as may be", true, codes(body(0, 0, 0, repeat(64, "const 0", "closure 1 64, return")), body(0, 0, 64, "capt 63, return"))},
		{"one capture too many", false, codes(body(0, 0, 0, repeat(65, "const 0", "closure 1 65, return")), body(0, 0, 65, "capt 64, return"))},
		{"one capture too many, of which nobody makes a procedure", false, codes(small, body(0, 0, 65, "const 0, return"))},
		{"a capture that isn't there", false, codes(body(0, 0, 0, repeat(64, "const 0", "closure 1 64, return")), body(0, 0, 64, "capt 64, return"))},

		{"as many parameters as may be", true, codes(small, body(32, 0, 0, "local 31, return"))},
		{"one parameter too many", false, codes(small, body(33, 0, 0, "local 0, return"))},
		{"as many parameters as may be, and all that is left", true, codes(small, body(32, 1, 0, "box 31, local 31, return"))},
		{"one parameter too many, and all that is left", false, codes(small, body(33, 1, 0, "local 0, return"))},
		{"a parameter that isn't there", false, codes(small, body(32, 0, 0, "local 32, return"))},
		{"a box of a parameter that isn't there", false, codes(small, body(32, 0, 0, "box 32, local 0, return"))},

		{"as many arguments as may be", true, codes(body(0, 0, 0, repeat(33, "const 0", "call 32, return")))},
		{"one argument too many", false, codes(body(0, 0, 0, repeat(34, "const 0", "call 33, return")))},
		{"as many arguments as may be in the place of a call", true, codes(body(0, 0, 0, repeat(33, "const 0", "tail 32")))},
		{"one argument too many in the place of a call", false, codes(body(0, 0, 0, repeat(34, "const 0", "tail 33")))},
	} {
		if e := code.Check(x.p); (e == api.OK) != x.is || !x.is && e != api.ErrCode {
			t.Errorf("%s: %d", x.what, int(e))
		}
		holds(t, x.p)
	}
}

// around is a program whose code 2 has an instruction that finds on the stack what it pops, and goes to the end behind it.
func around(in api.Ins) api.Prog {
	count := 0
	if row(in.Op) != nil {
		count = min(max(popped(in), 0), 100)
	}
	c := api.Code{Params: 3, Caps: 2, Ins: append(slices.Repeat(asm("const 0"), count), in)}
	switch {
	case in.Op == api.OpTail || in.Op == api.OpReturn:
	case row(in.Op) != nil && pushed(in) == 1:
		c.Ins = append(c.Ins, asm("return")...)
	default:
		c.Ins = append(c.Ins, asm("const 0, return")...)
	}
	p := codes(body(0, 0, 0, "const 0, return"), body(0, 0, 5, "capt 4, return"), c)
	p.Codes[2].Max = count + 1
	if legalIns(p, c, count) {
		p.Codes[2] = measured(c)
	}
	return p
}

// P9.1, P9.4: each instruction with all sorts of A and B: from the least to the greatest, and what is beyond.
func TestOperands(t *testing.T) {
	t.Parallel()
	most := map[string]int{"constant": 2, "name": 1, "parameter": 2, "capture": 1, "count": 32, "-": 0}
	wild := []int{63, 64, 65, 255, 256, 257, 1023, 1024, 4095, 4096, 65535, 65536, 65537, 1 << 20, 1<<31 - 1, 1 << 32, 1<<32 + 1, math.MaxInt - 1, math.MaxInt, -1, -2, -65536, -1 << 32, math.MinInt, math.MinInt + 1}
	for i := range 40 {
		wild = append(wild, i)
	}
	for op := -1; op <= 18; op++ {
		for _, a := range wild {
			for _, b := range wild {
				p, is := around(api.Ins{Op: op, A: a, B: b}), false
				if r := row(op); r != nil && r[1] == "code" {
					is = a == 1 && b == 5 || a == 2 && b == 2
				} else if r != nil && r[1] == "later" {
					is = a == len(p.Codes[2].Ins)-2 && b == 0
				} else if r != nil {
					is = 0 <= a && a <= most[r[1]] && b == 0
				}
				if e := code.Check(p); (e == api.OK) != is {
					t.Fatalf("%s: %d, but it should be valid is %t", brief(p), int(e), is)
				}
				if is || a == b || b == 0 {
					holds(t, p)
				}
			}
		}
	}
}

// P9.1: jumps to every index.
func TestJumps(t *testing.T) {
	for _, x := range []struct {
		s  string
		at int
		to []int
	}{
		{"const 0, false 0, const 0, pop, const 0, return", 1, []int{2, 4}},
		{"const 0, false 3, jump 0, const 0, pop, const 0, return", 2, []int{3, 5}},
		{"const 0, pop, const 0, false 0, const 0, pop, jump 7, const 0, return", 3, []int{4, 6, 7}},
		{"const 0, const 0, false 0, const 0, pop, return", 2, []int{3, 5}},
	} {
		for to := -2; to < 12; to++ {
			c := api.Code{Ins: asm(x.s)}
			c.Ins[x.at].A = to
			is := slices.Contains(x.to, to)
			for c.Max = range 4 {
				_, max, ok := stack(c)
				if got := holds(t, codes(c)); got != (is && ok && c.Max == max) || is && !ok {
					t.Errorf("%s, to %d, with Max %d: %t", x.s, to, c.Max, got)
				}
			}
		}
	}
}

// endless is a datum that contains itself, bush one of 2 to the power of depth nodes in little memory.
func endless() api.Datum {
	d := list(num(1), api.Datum{}, num(2))
	d.L[1] = d
	return d
}

func bush(depth int) api.Datum {
	d := num(1)
	for range depth {
		d = list(d, d)
	}
	return d
}

func nest(count int, d api.Datum) api.Datum {
	for range count {
		d = list(d)
	}
	return d
}

// P9.1, P9.2: constants as large as may be, larger ones, and such without end.
func TestLargeConstants(t *testing.T) {
	t.Parallel()
	row := numbers(4096)
	tail := dot(num(0), num(0))
	tail.T[0] = vec(tail)
	tail.T[0].L[0] = tail
	for _, x := range []struct {
		what string
		is   bool
		d    api.Datum
	}{
		{"as long as may be", true, list(row[:4095]...)},
		{"one too long", false, list(row...)},
		{"as deep as may be", true, nest(63, num(1))},
		{"one too deep", false, nest(64, num(1))},
		{"a bush of 4095", true, bush(11)},
		{"a bush of 8191", false, bush(12)},
	} {
		p := api.Prog{Consts: []api.Datum{x.d, num(9)}, Codes: []api.Code{body(0, 0, 0, "const 1, return")}}
		if holds(t, p) != x.is {
			t.Errorf("%s: it is valid isn't %t", x.what, x.is)
		}
	}
	for _, d := range []api.Datum{endless(), bush(100), tail, nest(3000, list()), nest(5000, num(1)), dot(endless(), num(1)), vec(num(1), bush(60), endless())} {
		p := api.Prog{Consts: []api.Datum{num(9), d, d}, Codes: []api.Code{body(0, 0, 0, "const 0, return")}}
		b, e := code.Bytes(p)
		l, f := code.Depths(p, 0)
		if code.Check(p) != api.ErrCode || e != api.ErrCode || b != nil || f != api.ErrCode || l != nil || slices.Collect(code.Lines(p, 0)) != nil {
			t.Error("a constant without end is valid")
		}
		c := code.Clone(p)
		if code.Same(p, p) || code.Same(p, c) || code.Same(c, p) || len(c.Consts) != 3 || !equalDatum(c.Consts[0], num(9)) || c.Consts[2].K != d.K || len(c.Consts[1].L) != len(d.L) || len(c.Consts[2].T) != len(d.T) {
			t.Error("Same or Clone of one with a constant without end")
		}
	}
}

// P9.1: many large constants, which differ at their ends only.
func TestManyLargeConstants(t *testing.T) {
	t.Parallel()
	row := slices.Repeat([]api.Datum{num(1)}, 4000)
	p := api.Prog{Codes: []api.Code{body(0, 0, 0, "const 0, return")}}
	for i := range 1024 {
		p.Consts = append(p.Consts, list(vec(row...), num(int64(i))))
	}
	if e := code.Check(p); e != api.OK {
		t.Error("Check", int(e))
	}
	p.Consts[1000].L = list(vec(row...), num(7)).L
	if e := code.Check(p); e != api.ErrCode {
		t.Error("Check of one with two that are equal", int(e))
	}
}

// P9.1: as many codes as may be, each as long as may be.
func TestManyLongCodes(t *testing.T) {
	t.Parallel()
	long := body(0, 0, 0, repeat(2047, "const 0, pop", "const 0, return"))
	p := codes(slices.Repeat([]api.Code{long}, 1024)...)
	if e := code.Check(p); e != api.OK {
		t.Error("Check", int(e))
	}
	b, e := code.Bytes(p)
	if e != api.OK || len(b) != 11+10+2+1024*(10+4096*6) {
		t.Error("Bytes", len(b), int(e))
	}
	if q, e := code.Parse(b); e != api.OK || !code.Same(p, q) {
		t.Error("Parse", int(e))
	}
	p.Codes[1023].Ins = slices.Clone(long.Ins)
	p.Codes[1023].Ins[4095].A = 1
	if e := code.Check(p); e != api.ErrCode {
		t.Error("Check of one whose last instruction is invalid", int(e))
	}
}
