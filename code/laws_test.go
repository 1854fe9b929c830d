package code_test

import (
	"bytes"
	"slices"
	"testing"

	"shuttle/api"
	"shuttle/code"
)

// walk goes through a code, with a decision at each OpFalse, until it ends, and tells whether the stack keeps the law.
func walk(c api.Code, depths []int, decide func() bool) bool {
	at, held, most := 0, 0, 0
	for steps := 1; steps <= len(c.Ins); steps++ {
		in := c.Ins[at]
		if depths[at] != held || held < popped(in) {
			return false
		}
		held -= popped(in)
		if in.Op == api.OpTail || in.Op == api.OpReturn {
			return held == 0 && most <= c.Max
		}
		held += pushed(in)
		most = max(most, held)
		if held > c.Max {
			return false
		}
		at++
		if in.Op == api.OpJump || in.Op == api.OpFalse && decide() {
			at = in.A
		}
	}
	return false
}

// P9.5: on every path the stack holds no more than Max values and no fewer than are popped, and the path ends.
func TestStackSafety(t *testing.T) {
	t.Parallel()
	g := newPicker(3)
	paths := 0
	for i := range 1500 {
		p := grown(g, i%6)
		paths += walks(t, g, p)
		for range 6 {
			if q := hurt(g, p); code.Check(q) == api.OK {
				paths += walks(t, g, q)
			}
		}
	}
	if paths < 20000 {
		t.Error("only so many paths:", paths)
	}
	each(nil, words(4), 4, func(l []api.Ins) {
		for most := 1; most < 4; most++ {
			if p := within(l, most); code.Check(p) == api.OK {
				walks(t, g, p)
			}
		}
	})
}

func walks(t *testing.T, g *picker, p api.Prog) int {
	t.Helper()
	count := 0
	for k, c := range p.Codes {
		depths, e := code.Depths(p, k)
		if e != api.OK {
			t.Fatalf("Depths of %s: %d", brief(p), int(e))
		}
		for _, decide := range []func() bool{
			func() bool { return true }, func() bool { return false }, func() bool { return g.pick(2) == 0 }, func() bool { return g.pick(2) == 0 }, func() bool { return g.pick(5) == 0 },
		} {
			count++
			if !walk(c, depths, decide) {
				t.Fatalf("a path of code %d of %s", k, brief(p))
			}
		}
	}
	return count
}

// P9.6: Parse of Bytes is the program, Bytes of Parse the bytes.
func TestRoundTrip(t *testing.T) {
	t.Parallel()
	g := newPicker(4)
	for i := range 1500 {
		p := grown(g, i%7)
		b, e := code.Bytes(p)
		q, f := code.Parse(b)
		again, h := code.Bytes(q)
		if e != api.OK || f != api.OK || h != api.OK || !code.Same(p, q) || !equal(p, q) || !bytes.Equal(b, again) {
			t.Fatalf("%s: %d, %d, %d", brief(p), int(e), int(f), int(h))
		}
	}
}

// P9.7: a program becomes invalid by another Max, and by an instruction behind the last one of a code.
func TestMinimality(t *testing.T) {
	t.Parallel()
	g := newPicker(5)
	for i := range 300 {
		p := grown(g, i%6)
		for k := range p.Codes {
			for _, by := range []int{-100, -2, -1, 1, 2, 100, 255, 1 << 32} {
				if q := with(p, func(p *api.Prog) { p.Codes[k].Max += by }); code.Check(q) != api.ErrCode {
					t.Fatalf("%s is valid with another Max of code %d", brief(q), k)
				}
			}
			for op := range 17 {
				for a := range 3 {
					q := with(p, func(p *api.Prog) {
						c := &p.Codes[k]
						c.Ins = slices.Concat(c.Ins, []api.Ins{{Op: op, A: a}})
					})
					if code.Check(q) != api.ErrCode {
						t.Fatalf("%s is valid with one more", brief(q))
					}
				}
			}
		}
	}
}
