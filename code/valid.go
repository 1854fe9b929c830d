package code

import (
	"cmp"
	"slices"

	"shuttle/api"
	"shuttle/datum"
)

func valid(p api.Prog) bool {
	return within(len(p.Codes), 1, api.MaxCodes+1) && p.Codes[0].Params == 0 && p.Codes[0].Caps == 0 &&
		constants(p.Consts) && names(p.Names) && codes(p)
}

// constants tells whether these are data without marks, each another one.
func constants(l []api.Datum) bool {
	if len(l) > api.MaxConsts {
		return false
	}
	for _, d := range l {
		if datum.Check(d) != api.OK || marked(d) {
			return false
		}
	}
	// Equal ones are neighbours when they are sorted: to hold each against each would take long if they are large.
	sorted := slices.SortedFunc(slices.Values(l), compare)
	for i := 1; i < len(sorted); i++ {
		if compare(sorted[i-1], sorted[i]) == 0 {
			return false
		}
	}
	return true
}

func marked(d api.Datum) bool {
	return len(d.M) > 0 || slices.ContainsFunc(d.L, marked) || slices.ContainsFunc(d.T, marked)
}

// compare orders valid data without marks: only equal ones come to 0.
func compare(a, b api.Datum) int {
	if first := cmp.Or(cmp.Compare(a.K, b.K), cmp.Compare(a.N, b.N), cmp.Compare(a.S, b.S)); first != 0 {
		return first
	}
	return cmp.Or(slices.CompareFunc(a.L, b.L, compare), slices.CompareFunc(a.T, b.T, compare))
}

// names tells whether these are texts of symbols, each another one.
func names(l []string) bool {
	if len(l) > api.MaxConsts {
		return false
	}
	seen := map[string]struct{}{}
	for _, s := range l {
		seen[s] = struct{}{}
		if !datum.Symbol(s) {
			return false
		}
	}
	return len(seen) == len(l)
}

// codes tells whether the codes of a program are valid.
func codes(p api.Prog) bool {
	for _, c := range p.Codes { // first, since an instruction refers to what other codes capture
		if !shaped(c) {
			return false
		}
	}
	for _, c := range p.Codes {
		if !fitting(p, c) {
			return false
		}
		if _, ok := depths(c); !ok {
			return false
		}
	}
	return true
}

func shaped(c api.Code) bool {
	return within(c.Params, 0, api.MaxParams+1) && within(c.Rest, 0, min(c.Params, 1)+1) &&
		within(c.Caps, 0, api.MaxCaps+1) && within(len(c.Ins), 1, api.MaxIns+1)
}

// fitting tells whether each instruction of a code has an A and a B that it may have.
func fitting(p api.Prog, c api.Code) bool {
	for i, in := range c.Ins {
		from, to := 0, 1 // what means nothing is 0
		if Name(in.Op) == "" {
			return false
		}
		switch instructions[in.Op].a {
		case constant:
			to = len(p.Consts)
		case global:
			to = len(p.Names)
		case parameter:
			to = c.Params
		case capture:
			to = c.Caps
		case later:
			from, to = i+1, len(c.Ins)
		case procedure:
			from, to = 1, len(p.Codes)
		case arguments:
			to = api.MaxParams + 1
		}
		if !within(in.A, from, to) || in.B != captured(p, in) {
			return false
		}
	}
	return true
}

// captured is how many values the code captures of which an instruction, whose A exists, makes a procedure.
func captured(p api.Prog, in api.Ins) int {
	if instructions[in.Op].a != procedure {
		return 0
	}
	return p.Codes[in.A].Caps
}

// depths is how many values are on the stack before each instruction of a code that is otherwise valid, and whether they are consistent.
func depths(c api.Code) ([]int, bool) {
	const unknown = -1
	before := slices.Repeat([]int{unknown}, len(c.Ins))
	before[0] = 0
	most := 0
	for i, in := range c.Ins {
		// Every instruction continues at later ones only, so whatever leads to this one has been seen.
		after := before[i] - pops(in)
		if before[i] == unknown || after < 0 || ends(in.Op) && after > 0 {
			return nil, false
		}
		after += instructions[in.Op].pushes
		most = max(most, before[i], after)
		for _, to := range next(i, in) {
			if to == len(c.Ins) || before[to] != unknown && before[to] != after {
				return nil, false
			}
			before[to] = after
		}
	}
	return before, most == c.Max && most <= api.MaxStack
}

// within tells whether n is at least from, and less than to.
func within(n, from, to int) bool {
	return from <= n && n < to
}
