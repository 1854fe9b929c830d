package code_test

import (
	"math"
	"slices"
	"strings"
	"testing"

	"shuttle/api"
	"shuttle/code"
)

// sample is a valid program with each of the instructions, made anew.
func sample() api.Prog {
	return api.Prog{
		Consts: []api.Datum{num(5), {K: api.DBool}, list(sym("a"), str("b"), vec(dot(num(7), api.Datum{K: api.DChar, N: 'c'})))},
		Names:  []string{"car", "...", "x"},
		Codes: []api.Code{
			body(0, 0, 0, "global 0, false 6, const 0, global 1, closure 1 2, jump 7, const 1, pop, global 1, const 2, define 2, call 1, closure 2 0, tail 1"),
			body(2, 1, 2, "box 1, capt 1, local 1, unbox, setbox, pop, local 0, assign 1, return"),
			body(0, 0, 0, "const 2, return"),
		},
	}
}

// alone is a program of one code, with two constants and a name.
func alone(s string) api.Prog {
	return api.Prog{Consts: []api.Datum{num(1), num(2)}, Names: []string{"f"}, Codes: []api.Code{body(0, 0, 0, s)}}
}

// The chapter's example.
func TestExample(t *testing.T) {
	p := api.Prog{Consts: []api.Datum{num(5)}, Codes: []api.Code{{Max: 1, Ins: []api.Ins{{Op: api.OpConst}, {Op: api.OpReturn}}}}}
	if e := code.Check(p); e != api.OK {
		t.Error("Check", int(e))
	}
	if l, e := code.Depths(p, 0); e != api.OK || !slices.Equal(l, []int{0, 1}) {
		t.Error("Depths", l, int(e))
	}
	want := []byte{0, 1, 0, 1, 53, 0, 0, 0, 1, 0, 0, 0, 0, 0, 0, 0, 1, 0, 2, 0, 1, 0, 0, 0, 0, 0, 15, 0, 0, 0, 0}
	if b, e := code.Bytes(p); e != api.OK || !slices.Equal(b, want) {
		t.Error("Bytes", b, int(e))
	}
	if q, e := code.Parse(want); e != api.OK || !equal(q, p) {
		t.Error("Parse", brief(q), int(e))
	}
	if l := slices.Collect(code.Lines(p, 0)); !slices.Equal(l, []string{"0 const 0", "1 return"}) {
		t.Error("Lines", l)
	}
}

// P9.1, P9.4: a program with each of the instructions.
func TestSample(t *testing.T) {
	p := sample()
	if !holds(t, p) {
		t.Fatal("it should be valid")
	}
	for k, want := range [][]int{{0, 1, 0, 1, 2, 1, 0, 1, 0, 1, 2, 2, 1, 2}, {0, 0, 1, 2, 2, 1, 0, 1, 1}, {0, 1}} {
		if l, e := code.Depths(p, k); e != api.OK || !slices.Equal(l, want) {
			t.Errorf("Depths of code %d: %v, %d", k, l, int(e))
		}
	}
	for k, want := range []string{
		"0 global 0|1 false 6|2 const 0|3 global 1|4 closure 1 2|5 jump 7|6 const 1|7 pop|8 global 1|9 const 2|10 define 2|11 call 1|12 closure 2 0|13 tail 1",
		"0 box 1|1 capt 1|2 local 1|3 unbox|4 setbox|5 pop|6 local 0|7 assign 1|8 return",
		"0 const 2|1 return",
	} {
		if l := slices.Collect(code.Lines(p, k)); strings.Join(l, "|") != want {
			t.Errorf("Lines of code %d: %q", k, l)
		}
	}
	if m := []int{p.Codes[0].Max, p.Codes[1].Max, p.Codes[2].Max}; !slices.Equal(m, []int{2, 2, 1}) {
		t.Error("Max", m)
	}
}

// P9.1: programs that are invalid for one reason alone, beside such as are valid.
func TestCheck(t *testing.T) {
	for _, x := range []struct {
		what   string
		is     bool
		change func(p *api.Prog)
	}{
		{"as it is", true, func(p *api.Prog) {}},
		{"no code", false, func(p *api.Prog) { p.Codes = nil }},
		{"the first code has a parameter", false, func(p *api.Prog) { p.Codes[0].Params = 1 }},
		{"the first code takes what is left", false, func(p *api.Prog) { p.Codes[0].Rest = 1 }},
		{"the first code has a parameter and takes what is left", false, func(p *api.Prog) { p.Codes[0].Params, p.Codes[0].Rest = 1, 1 }},
		{"the first code captures", false, func(p *api.Prog) { p.Codes[0].Caps = 1 }},
		{"another one has no parameter and takes what is left", false, func(p *api.Prog) { p.Codes[2].Rest = 1 }},
		{"another one has a parameter", true, func(p *api.Prog) { p.Codes[2].Params = 1 }},
		{"another one has a parameter and takes what is left", true, func(p *api.Prog) { p.Codes[2].Params, p.Codes[2].Rest = 1, 1 }},
		{"Rest is 0", true, func(p *api.Prog) { p.Codes[1].Rest = 0 }},
		{"Rest is 2", false, func(p *api.Prog) { p.Codes[1].Rest = 2 }},
		{"Rest is -1", false, func(p *api.Prog) { p.Codes[1].Rest = -1 }},
		{"Params is -1", false, func(p *api.Prog) { p.Codes[2].Params = -1 }},
		{"Caps is -1", false, func(p *api.Prog) { p.Codes[2].Caps, p.Codes[0].Ins[12].B = -1, -1 }},
		{"more captures than a closure takes", false, func(p *api.Prog) { p.Codes[1].Caps = 3 }},
		{"fewer captures than a closure takes", false, func(p *api.Prog) { p.Codes[2].Caps = 1 }},
		{"Max is one more", false, func(p *api.Prog) { p.Codes[0].Max++ }},
		{"Max is one less", false, func(p *api.Prog) { p.Codes[1].Max-- }},
		{"Max is -1", false, func(p *api.Prog) { p.Codes[2].Max = -1 }},
		{"no instruction", false, func(p *api.Prog) { p.Codes[2].Ins, p.Codes[2].Max = nil, 0 }},
		{"no instruction 0", false, func(p *api.Prog) { p.Codes[2].Ins[0].Op = 0 }},
		{"no instruction 17", false, func(p *api.Prog) { p.Codes[2].Ins[0].Op = 17 }},
		{"no instruction -1", false, func(p *api.Prog) { p.Codes[2].Ins[0].Op = -1 }},
		{"a code that nobody makes a procedure of", true, func(p *api.Prog) { p.Codes = append(p.Codes, p.Codes[1]) }},
		{"such a one that is invalid", false, func(p *api.Prog) { p.Codes = append(p.Codes, api.Code{}) }},
		{"a procedure of code 0", false, func(p *api.Prog) { p.Codes[0].Ins[12].A = 0 }},
		{"a procedure of itself", true, func(p *api.Prog) { p.Codes[2] = body(0, 0, 0, "closure 2 0, return") }},

		{"a constant that is not used", true, func(p *api.Prog) { p.Consts = append(p.Consts, num(6)) }},
		{"a constant too few", false, func(p *api.Prog) { p.Consts = p.Consts[:2] }},
		{"the zero datum", false, func(p *api.Prog) { p.Consts[1] = api.Datum{} }},
		{"an invalid constant that is not used", false, func(p *api.Prog) { p.Consts = append(p.Consts, api.Datum{K: api.DBool, N: 2}) }},
		{"an invalid datum within a constant", false, func(p *api.Prog) { p.Consts[1] = list(vec(api.Datum{K: 9})) }},
		{"a constant with a mark", false, func(p *api.Prog) { p.Consts[1] = sym("b", 1) }},
		{"a mark within a list", false, func(p *api.Prog) { p.Consts[1] = list(num(1), list(sym("b", 1))) }},
		{"a mark within a vector", false, func(p *api.Prog) { p.Consts[1] = vec(sym("b", 1)) }},
		{"a mark within a tail", false, func(p *api.Prog) { p.Consts[1] = dot(vec(sym("b", 1)), num(1)) }},
		{"a mark ahead of a tail", false, func(p *api.Prog) { p.Consts[1] = dot(num(1), num(1), sym("b", 1)) }},
		{"a symbol with no marks", true, func(p *api.Prog) { p.Consts[1] = api.Datum{K: api.DSym, S: "b", M: []int{}} }},
		{"two equal constants", false, func(p *api.Prog) { p.Consts[1] = num(5) }},
		{"two equal constants that are not neighbours", false, func(p *api.Prog) { p.Consts = append(p.Consts, num(5)) }},
		{"two equal constants behind each other", false, func(p *api.Prog) { p.Consts = append(p.Consts, list(), list()) }},
		{"two lists without elements", false, func(p *api.Prog) { p.Consts[0], p.Consts[1] = list(), api.Datum{K: api.DList, L: []api.Datum{}} }},
		{"two equal lists", false, func(p *api.Prog) {
			p.Consts[0] = list(sym("a"), str("b"), vec(dot(num(7), api.Datum{K: api.DChar, N: 'c'})))
		}},
		{"two lists that differ at their ends", true, func(p *api.Prog) {
			p.Consts[0] = list(sym("a"), str("b"), vec(dot(num(7), api.Datum{K: api.DChar, N: 'd'})))
		}},
		{"two lists that differ in a tail", true, func(p *api.Prog) {
			p.Consts[0] = list(sym("a"), str("b"), vec(dot(num(8), api.Datum{K: api.DChar, N: 'c'})))
		}},
		{"a list and the vector of the same", true, func(p *api.Prog) { p.Consts[0], p.Consts[1] = list(num(1)), vec(num(1)) }},
		{"a list and one with a tail", true, func(p *api.Prog) { p.Consts[0], p.Consts[1] = list(num(1)), dot(num(2), num(1)) }},
		{"a number, a character and a boolean", true, func(p *api.Prog) {
			p.Consts[0], p.Consts[1] = num(0), api.Datum{K: api.DChar}
			p.Consts = append(p.Consts, api.Datum{K: api.DBool})
		}},
		{"a symbol and a string", true, func(p *api.Prog) { p.Consts[0], p.Consts[1] = sym("b"), str("b") }},
		{"a list and the beginning of it", true, func(p *api.Prog) { p.Consts[0], p.Consts[1] = list(num(1), num(2)), list(num(1)) }},

		{"a name that is not used", true, func(p *api.Prog) { p.Names = append(p.Names, "y") }},
		{"a name too few", false, func(p *api.Prog) { p.Names = p.Names[:2] }},
		{"two equal names", false, func(p *api.Prog) { p.Names[2] = "car" }},
		{"two equal names that are not used", false, func(p *api.Prog) { p.Names = append(p.Names, "y", "y") }},
		{"two names that differ in a letter's case", true, func(p *api.Prog) { p.Names[2] = "Car" }},
		{"no text", false, func(p *api.Prog) { p.Names[0] = "" }},
		{"a number's text", false, func(p *api.Prog) { p.Names[0] = "1" }},
		{"two words", false, func(p *api.Prog) { p.Names[0] = "a b" }},
		{"a name as long as may be", true, func(p *api.Prog) { p.Names[0] = strings.Repeat("n", 32) }},
		{"a name too long", false, func(p *api.Prog) { p.Names[0] = strings.Repeat("n", 33) }},
	} {
		p := with(sample(), x.change)
		if e := code.Check(p); (e == api.OK) != x.is || !x.is && e != api.ErrCode {
			t.Errorf("%s: %d", x.what, int(e))
		}
		holds(t, p)
	}
}

// P9.1: which depths are consistent.
func TestStack(t *testing.T) {
	for _, x := range []struct {
		s   string
		max int // 0: it is invalid
	}{
		{"const 0, return", 1},
		{"return", 0},
		{"const 0, const 1, return", 0},
		{"const 0, const 1, pop, return", 2},
		{"const 0, pop, return", 0},
		{"pop, const 0, return", 0},
		{"const 0", 0},
		{"const 0, pop", 0},
		{"const 0, return, return", 0},
		{"const 0, return, const 0", 0},
		{"const 0, return, const 0, return", 0},

		{"const 0, tail 0", 1},
		{"const 0, const 1, tail 1", 2},
		{"const 0, tail 1", 0},
		{"const 0, const 1, tail 0", 0},
		{"const 0, const 1, const 0, tail 2", 3},
		{"const 0, const 1, const 0, tail 1", 0},
		{"const 0, tail 0, return", 0},
		{"const 0, call 0, return", 1},
		{"call 0, return", 0},
		{"const 0, call 1, return", 0},
		{"const 0, const 0, call 1, return", 2},
		{"const 0, const 0, call 0, tail 1", 2},
		{"const 0, const 0, const 0, call 1, call 1, return", 3},
		{"const 0, call 0", 0},

		{"const 0, unbox, return", 1},
		{"unbox, return", 0},
		{"const 0, const 0, setbox, return", 2},
		{"const 0, setbox, return", 0},
		{"setbox, return", 0},
		{"const 0, assign 0, return", 1},
		{"assign 0, return", 0},
		{"const 0, define 0, return", 1},
		{"define 0, return", 0},
		{"global 0, return", 1},

		// Jumps.
		{"const 0, false 3, const 0, const 0, return", 0},
		{"const 0, false 4, const 0, return, const 1, return", 1},
		{"const 0, false 2, const 0, return", 1},
		{"const 0, false 4, const 0, jump 5, const 0, return", 1},
		{"const 0, false 4, const 0, jump 5, global 0, tail 0", 1},
		{"const 0, false 4, const 0, jump 6, const 0, const 0, tail 1", 0},
		{"const 0, const 0, false 5, const 0, tail 1, return", 2},
		{"const 0, const 0, false 5, pop, jump 6, pop, const 0, return", 2},
		{"const 0, const 0, false 5, pop, jump 6, pop, return", 0},
		{"const 0, jump 2, return", 1},
		{"const 0, jump 3, const 0, return", 0},
		{"jump 1, jump 2, const 0, jump 4, return", 1},
		{"jump 2, return, const 0, return", 0},
		{"false 1, const 0, return", 0},
		{"const 0, false 3, const 0, return", 0},
		{"const 0, false 1, return", 0},
		{"const 0, jump 1, return", 0},
		{"const 0, jump 0, return", 0},
		{"const 0, jump 3, return", 0},
		{"const 0, false 4, const 0, return", 0},
		{"const 0, return, jump 3, return", 0},
		{"const 0, jump 2", 0},
		{"const 0, false 2", 0},
		{"const 0, false 5, const 0, jump 6, return, const 1, return", 0},
		{"const 0, false 6, const 0, false 6, const 0, return, const 1, return", 1},
		{"const 0, false 7, const 0, const 1, false 7, pop, jump 7, const 1, return", 0},
		{"const 0, false 5, const 0, const 0, tail 1, const 0, const 0, tail 1", 2},
		{"const 0, false 6, const 0, const 0, const 0, tail 2, const 0, tail 0", 3},
		{"const 0, false 4, const 0, tail 0, const 0, const 0, const 0, tail 2", 3},
	} {
		p := alone(x.s)
		p.Codes[0].Max = x.max
		if x.max == 0 {
			for p.Codes[0].Max = range 5 {
				if holds(t, p) {
					t.Errorf("%s should be invalid", x.s)
				}
			}
			continue
		}
		if !holds(t, p) {
			t.Errorf("%s should be valid", x.s)
		}
	}
}

// P9.1: Depths' errors, in their order.
func TestDepthsErrors(t *testing.T) {
	p := sample()
	for _, k := range []int{-1, 3, 4, math.MinInt, math.MaxInt, 1 << 32} {
		if l, e := code.Depths(p, k); e != api.ErrNone || l != nil {
			t.Errorf("Depths at %d: %v, %d", k, l, int(e))
		}
		for line := range code.Lines(p, k) {
			t.Errorf("Lines at %d yields %q", k, line)
		}
	}
	p.Codes[2].Max = 2
	for k := -1; k < 5; k++ {
		if l, e := code.Depths(p, k); e != api.ErrCode || l != nil {
			t.Errorf("Depths of an invalid program at %d: %v, %d", k, l, int(e))
		}
		for line := range code.Lines(p, k) {
			t.Errorf("Lines of an invalid program at %d yields %q", k, line)
		}
	}
}

// P9.2: Same looks at every field of valid and of invalid programs.
func TestSame(t *testing.T) {
	l := []api.Prog{{}, sample()}
	for _, change := range []func(p *api.Prog){
		func(p *api.Prog) { p.Codes = nil },
		func(p *api.Prog) { p.Codes = p.Codes[:2] },
		func(p *api.Prog) { p.Codes = append(p.Codes, api.Code{}) },
		func(p *api.Prog) { p.Codes = append(p.Codes, p.Codes[2]) },
		func(p *api.Prog) { slices.Reverse(p.Codes) },
		func(p *api.Prog) { p.Codes[1].Params = -7 },
		func(p *api.Prog) { p.Codes[1].Rest = 7 },
		func(p *api.Prog) { p.Codes[1].Caps = 7 },
		func(p *api.Prog) { p.Codes[1].Max = 7 },
		func(p *api.Prog) { p.Codes[2].Ins = nil },
		func(p *api.Prog) { p.Codes[2].Ins = p.Codes[2].Ins[:1] },
		func(p *api.Prog) { p.Codes[2].Ins = append(p.Codes[2].Ins, api.Ins{}) },
		func(p *api.Prog) { p.Codes[2].Ins[1].Op = 77 },
		func(p *api.Prog) { p.Codes[2].Ins[1].A = 77 },
		func(p *api.Prog) { p.Codes[2].Ins[1].B = 77 },
		func(p *api.Prog) { p.Consts = nil },
		func(p *api.Prog) { p.Consts = p.Consts[:2] },
		func(p *api.Prog) { p.Consts = append(p.Consts, num(5)) },
		func(p *api.Prog) { slices.Reverse(p.Consts) },
		func(p *api.Prog) { p.Consts[0].N = 6 },
		func(p *api.Prog) { p.Consts[0] = api.Datum{K: api.DChar, N: 5} },
		func(p *api.Prog) { p.Consts[2].L[1].S = "c" },
		func(p *api.Prog) { p.Consts[2].L[0].M = []int{1} },
		func(p *api.Prog) { p.Consts[2].L[0].M = []int{2} },
		func(p *api.Prog) { p.Consts[2].L[2].L[0].T[0].N = 8 },
		func(p *api.Prog) { p.Names = nil },
		func(p *api.Prog) { p.Names = p.Names[:2] },
		func(p *api.Prog) { p.Names = append(p.Names, "") },
		func(p *api.Prog) { p.Names[2] = "y" },
		func(p *api.Prog) { slices.Reverse(p.Names) },
	} {
		l = append(l, with(sample(), change))
	}
	for i, a := range l {
		for j, b := range l {
			if got := code.Same(a, b); got != (i == j) {
				t.Errorf("Same of %d and %d: %t", i, j, got)
			}
		}
		if c := code.Clone(a); !equal(a, c) || !code.Same(a, c) {
			t.Errorf("Clone of %d", i)
		}
		// Invalid data are the same as none.
		for _, d := range []api.Datum{{}, {K: 9}, {K: api.DBool, N: 2}, {K: api.DDot}, {K: api.DFix, S: "a", M: []int{3}, L: []api.Datum{num(1)}, T: []api.Datum{list(num(2)), num(3)}}} {
			bad := with(a, func(p *api.Prog) { p.Consts = append(p.Consts, d) })
			if code.Same(bad, bad) || code.Same(a, bad) || code.Same(bad, a) {
				t.Errorf("Same of %d with data that are invalid", i)
			}
			if !equal(code.Clone(bad), bad) {
				t.Errorf("Clone of %d with data that are invalid", i)
			}
		}
	}
}

// P9.4: the names, and numbers that are no instruction's.
func TestName(t *testing.T) {
	want := []string{"", "const", "local", "capt", "global", "box", "unbox", "setbox", "assign", "define", "jump", "false", "closure", "call", "tail", "return", "pop", ""}
	for op, s := range want {
		if got := code.Name(op); got != s {
			t.Errorf("Name of %d: %q, not %q", op, got, s)
		}
	}
	for _, op := range []int{-1, -16, 18, 255, 256, 257, 65537, 1<<32 + 1, math.MinInt, math.MaxInt} {
		if s := code.Name(op); s != "" {
			t.Errorf("Name of %d: %q", op, s)
		}
	}
}

// P9.4: Lines may be left, and gone through again.
func TestLines(t *testing.T) {
	seq := code.Lines(sample(), 0)
	want := lines(sample().Codes[0])
	for range 2 {
		if got := slices.Collect(seq); !slices.Equal(got, want) {
			t.Errorf("Lines: %q", got)
		}
	}
	for stop := range want {
		var seen []string
		for s := range seq {
			seen = append(seen, s)
			if len(seen) > stop {
				break
			}
		}
		if !slices.Equal(seen, want[:stop+1]) {
			t.Errorf("Lines, left behind %d: %q", stop+1, seen)
		}
	}
}
