package code_test

import (
	"slices"
	"testing"

	"shuttle/api"
	"shuttle/code"
)

// words are the instructions, also jumps to each of so many indices, of which small codes are made.
func words(count int) []api.Ins {
	l := asm("const 0, global 0, closure 1 1, unbox, setbox, define 0, call 0, call 1, tail 0, tail 1, return, pop")
	for to := range count + 1 {
		l = append(l, api.Ins{Op: api.OpJump, A: to}, api.Ins{Op: api.OpFalse, A: to})
	}
	return l
}

// within is a program that is valid if its code 0, of these instructions, is.
func within(l []api.Ins, most int) api.Prog {
	return api.Prog{Consts: numbers(1), Names: symbols(1), Codes: []api.Code{{Max: most, Ins: l}, body(0, 0, 1, "capt 0, return")}}
}

// each shows all rows of instructions that go on so with so many of these words.
func each(l, words []api.Ins, count int, see func(l []api.Ins)) {
	if count == 0 {
		see(slices.Clone(l))
		return
	}
	for _, in := range words {
		each(append(l, in), words, count-1, see)
	}
}

// P9.1 to P9.4: all codes of up to three instructions, with all that may be their Max and some that may not.
func TestSmall(t *testing.T) {
	t.Parallel()
	valid := 0
	for count := range 4 {
		each(nil, words(count), count, func(l []api.Ins) {
			for most := range 4 {
				if holds(t, within(l, most)) {
					valid++
				}
			}
		})
	}
	if valid < 30 {
		t.Error("only so many are valid:", valid)
	}
}

// P9.1: all codes of four instructions, and those of five and six that begin with a constant and a test.
func TestSmallCheck(t *testing.T) {
	t.Parallel()
	valid := 0
	see := func(l []api.Ins) {
		p := within(l, 1)
		all := true
		for i := range l {
			all = all && legalIns(p, p.Codes[0], i)
		}
		if all {
			p.Codes[0] = measured(p.Codes[0])
		}
		want := api.ErrCode
		if legal(p) {
			want = api.OK
			valid++
		}
		if e := code.Check(p); e != want {
			t.Fatalf("Check of %s: %d, not %d", brief(p), int(e), int(want))
		}
	}
	each(nil, words(4), 4, see)
	for to := range 7 {
		l := asm("const 0, false 0")
		l[1].A = to
		each(l[:2:2], words(5), 3, see)
		each(l[:2:2], append(asm("const 0, return, pop, tail 0"), words(6)[12:]...), 4, see)
	}
	if valid < 250 {
		t.Error("only so many are valid:", valid)
	}
}
