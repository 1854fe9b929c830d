package code_test

import (
	"slices"
	"testing"

	"shuttle/api"
	"shuttle/code"
)

// picker picks numbers, the same ones each time.
type picker struct{ seed uint64 }

func newPicker(seed uint64) *picker {
	p := &picker{seed*2654435769 + 88172645463325252}
	for range 5 {
		p.pick(2)
	}
	return p
}

func (p *picker) pick(below int) int {
	p.seed ^= p.seed << 13
	p.seed ^= p.seed >> 7
	p.seed ^= p.seed << 17
	return int(p.seed>>11) % below
}

// grower grows mixed programs that are valid.
type grower struct {
	*picker
	p api.Prog
	c *api.Code // the code that grows
}

func grown(p *picker, levels int) api.Prog {
	g := &grower{picker: p}
	for i := range 1 + p.pick(5) {
		g.p.Consts = append(g.p.Consts, list(g.datum(2), num(int64(i))))
	}
	g.p.Names = symbols(1 + p.pick(5))
	g.p.Codes = make([]api.Code, 1+p.pick(5))
	for i := range g.p.Codes[1:] {
		c := &g.p.Codes[i+1]
		c.Params, c.Caps = p.pick(4), p.pick(4)
		c.Rest = p.pick(1 + min(1, c.Params))
	}
	for i := range g.p.Codes {
		g.c = &g.p.Codes[i]
		g.last(levels)
		*g.c = measured(*g.c)
	}
	return g.p
}

func (g *grower) add(op, a, b int) int {
	g.c.Ins = append(g.c.Ins, api.Ins{Op: op, A: a, B: b})
	return len(g.c.Ins) - 1
}

// land lets the instruction at an index go on at the next one that is added.
func (g *grower) land(at int) { g.c.Ins[at].A = len(g.c.Ins) }

// last adds what begins with an empty stack and continues nowhere.
func (g *grower) last(levels int) {
	switch {
	case levels > 0 && g.pick(3) == 0:
		g.value(levels - 1)
		at := g.add(api.OpFalse, 0, 0)
		g.last(levels - 1)
		g.land(at)
		g.last(levels - 1)
	case levels > 0 && g.pick(4) == 0:
		g.value(levels - 1)
		g.add(api.OpPop, 0, 0)
		g.last(levels - 1)
	case g.pick(2) == 0:
		count := g.pick(3)
		for range count + 1 {
			g.value(levels - 1)
		}
		g.add(api.OpTail, count, 0)
	default:
		g.value(levels)
		g.add(api.OpReturn, 0, 0)
	}
}

// value adds what puts one value on the stack.
func (g *grower) value(levels int) {
	g.idle()
	if levels <= 0 {
		g.leaf()
		return
	}
	switch g.pick(7) {
	case 0:
		g.value(levels - 1)
		g.add([]int{api.OpUnbox, api.OpAssign, api.OpDefine}[g.pick(3)], 0, 0)
	case 1:
		g.value(levels - 1)
		g.value(levels - 1)
		g.add([]int{api.OpSetBox, api.OpPop}[g.pick(2)], 0, 0)
	case 2:
		count := g.pick(4)
		for range count + 1 {
			g.value(levels - 1)
		}
		g.add(api.OpCall, count, 0)
	case 3:
		g.value(levels - 1)
		no := g.add(api.OpFalse, 0, 0)
		g.value(levels - 1)
		end := g.add(api.OpJump, 0, 0)
		g.land(no)
		g.value(levels - 1)
		g.land(end)
	case 4:
		if len(g.p.Codes) > 1 {
			k := 1 + g.pick(len(g.p.Codes)-1)
			for range g.p.Codes[k].Caps {
				g.value(levels - 1)
			}
			g.add(api.OpClosure, k, g.p.Codes[k].Caps)
			return
		}
		g.leaf()
	default:
		g.leaf()
	}
}

func (g *grower) leaf() {
	switch kind := g.pick(4); {
	case kind == 0:
		g.add(api.OpGlobal, g.pick(len(g.p.Names)), 0)
	case kind == 1 && g.c.Params > 0:
		g.add(api.OpLocal, g.pick(g.c.Params), 0)
	case kind == 2 && g.c.Caps > 0:
		g.add(api.OpCapt, g.pick(g.c.Caps), 0)
	default:
		g.add(api.OpConst, g.pick(len(g.p.Consts)), 0)
	}
}

// idle adds, now and then, what leaves the stack as it is.
func (g *grower) idle() {
	switch kind := g.pick(12); {
	case kind == 0 && g.c.Params > 0:
		g.add(api.OpBox, g.pick(g.c.Params), 0)
	case kind == 1:
		g.land(g.add(api.OpJump, 0, 0))
	case kind == 2:
		g.leaf()
		g.land(g.add(api.OpFalse, 0, 0))
	}
}

func (g *grower) datum(levels int) api.Datum {
	kinds := 8
	if levels == 0 {
		kinds = 5
	}
	row := func(count int) []api.Datum {
		l := make([]api.Datum, count)
		for i := range l {
			l[i] = g.datum(levels - 1)
		}
		return l
	}
	switch 1 + g.pick(kinds) {
	case api.DFix:
		return num(int64(g.pick(2000)) - 1000)
	case api.DBool:
		return api.Datum{K: api.DBool, N: int64(g.pick(2))}
	case api.DChar:
		return api.Datum{K: api.DChar, N: int64(g.pick(128))}
	case api.DStr:
		return str([]string{"", "s", "a \"b\\\n"}[g.pick(3)])
	case api.DSym:
		return sym([]string{"quote", "x", "..."}[g.pick(3)])
	case api.DList:
		return list(row(g.pick(3))...)
	case api.DVec:
		return vec(row(g.pick(3))...)
	}
	return dot(num(int64(g.pick(9))), row(1+g.pick(2))...)
}

// hurt is a program with one change, which may make it invalid.
func hurt(g *picker, p api.Prog) api.Prog {
	p = copied(p)
	if len(p.Codes) == 0 {
		return p
	}
	c := &p.Codes[g.pick(len(p.Codes))]
	if g.pick(3) == 0 || len(c.Ins) == 0 {
		hurtCode(g, &p, c)
		return p
	}
	i := g.pick(len(c.Ins))
	in := &c.Ins[i]
	switch g.pick(9) {
	case 0:
		in.A++
	case 1:
		in.A--
	case 2:
		in.A = g.pick(len(c.Ins) + 1)
	case 3:
		in.B += g.pick(3) - 1
	case 4:
		in.Op = g.pick(18)
	case 5:
		c.Ins = slices.Delete(c.Ins, i, i+1)
	case 6:
		c.Ins = slices.Insert(c.Ins, i, c.Ins[g.pick(len(c.Ins))])
	case 7:
		j := g.pick(len(c.Ins))
		c.Ins[i], c.Ins[j] = c.Ins[j], c.Ins[i]
	case 8:
		c.Ins = c.Ins[:i]
	}
	return p
}

func hurtCode(g *picker, p *api.Prog, c *api.Code) {
	switch g.pick(12) {
	case 0:
		c.Max += g.pick(3) - 1
	case 1:
		c.Params += g.pick(3) - 1
	case 2:
		c.Caps += g.pick(3) - 1
	case 3:
		c.Rest = g.pick(4) - 1
	case 4:
		p.Codes = append(p.Codes, p.Codes[g.pick(len(p.Codes))])
	case 5:
		p.Codes = p.Codes[:len(p.Codes)-1]
	case 6:
		p.Consts = append(p.Consts, []api.Datum{num(1), sym("y"), sym("y", 1), list(sym("y", 1)), {}, {K: 9, L: []api.Datum{num(1)}}}[g.pick(6)])
	case 7:
		p.Consts = p.Consts[:len(p.Consts)/2]
	case 8:
		p.Names = append(p.Names, []string{"n0", "y", "", "1", "n n"}[g.pick(5)])
	case 9:
		p.Names = p.Names[:len(p.Names)/2]
	case 10:
		slices.Reverse(p.Codes)
	case 11:
		slices.Reverse(p.Consts)
	}
}

// P9.1 to P9.4: mixed programs, as they are grown and with faults.
func TestMixed(t *testing.T) {
	t.Parallel()
	g := newPicker(1)
	valid := 0
	for i := range 3000 {
		p := grown(g, i%6)
		if !holds(t, p) {
			t.Fatalf("%s should be valid", brief(p))
		}
		for range 6 {
			p = hurt(g, p)
			if holds(t, p) {
				valid++
			}
		}
	}
	if valid < 1000 || valid > 9000 {
		t.Error("so many with faults are valid:", valid)
	}
}

// P9.3: mixed bytes with faults.
func TestMixedBytes(t *testing.T) {
	t.Parallel()
	g := newPicker(2)
	count := 0
	for i := range 3000 {
		good, e := code.Bytes(grown(g, i%4))
		if e != api.OK {
			t.Fatal("Bytes", int(e))
		}
		for range 6 {
			b := slices.Clone(good)
			at := g.pick(len(b))
			switch g.pick(4) {
			case 0:
				b[at] = byte(g.pick(256))
			case 1:
				b[at] += byte(g.pick(3) - 1)
			case 2:
				b = slices.Delete(b, at, at+1)
			case 3:
				b = slices.Insert(b, at, b[g.pick(len(b))])
			}
			if parses(t, b) {
				good = b
				count++
			}
		}
	}
	if count < 1000 {
		t.Error("only so many are programs:", count)
	}
}
