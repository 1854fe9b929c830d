package datum_test

import (
	"slices"
	"testing"

	"shuttle/api"
	"shuttle/datum"
)

// P2.3: List takes what it is given, valid or not.
func TestList(t *testing.T) {
	if d := datum.List(); !even(d, list()) || datum.Check(d) != api.OK {
		t.Error("List of nothing:", d)
	}
	for _, l := range [][]api.Datum{nil, {}, {num(1)}, {num(1), num(2)}, {list(), list(sym("a", 1))}, valid(), alone(), row(5000), {nest(70, num(1)), {}, num(1)}, {list(row(5000)...), num(1)}} {
		if d := datum.List(l...); !even(d, list(l...)) {
			t.Errorf("List of %s: %s", brief(l), brief(d))
		}
	}
	for _, endless := range []api.Datum{round(), bush(60)} {
		d := datum.List(num(1), endless)
		if d.K != api.DList || len(d.L) != 2 || !even(d.L[0], num(1)) || d.L[1].K != api.DList || len(d.L[1].L) != 2 || datum.Check(d) != datum.Check(endless) {
			t.Error("List of what has no end")
		}
	}
}

// P2.3: Cons, Car and Cdr, by hand.
func TestPairsByHand(t *testing.T) {
	a, b, c := sym("a", 1), num(2), str("c")
	for _, x := range []struct{ car, cdr, pair api.Datum }{
		{a, list(), list(a)},
		{a, list(b, c), list(a, b, c)},
		{a, list(list(b)), list(a, list(b))},
		{list(a), list(), list(list(a))},
		{list(), list(), list(list())},
		{list(a), list(b), list(list(a), b)},
		{a, b, dot(b, a)},
		{a, sym("d"), dot(sym("d"), a)},
		{a, c, dot(c, a)},
		{a, api.Datum{K: api.DBool}, dot(api.Datum{K: api.DBool}, a)},
		{a, api.Datum{K: api.DChar, N: 9}, dot(api.Datum{K: api.DChar, N: 9}, a)},
		{a, vec(), dot(vec(), a)},
		{a, vec(b), dot(vec(b), a)},
		{a, dot(c, b), dot(c, a, b)},
		{list(a), dot(c, list(b), b), dot(c, list(a), list(b), b)},
		{dot(b, a), dot(b, a), dot(b, dot(b, a), a)},
		{dot(b, a), list(), list(dot(b, a))},
		{vec(a), b, dot(b, vec(a))},
	} {
		if d, e := datum.Cons(x.car, x.cdr); e != api.OK || !even(d, x.pair) {
			t.Errorf("Cons(%v, %v) is %v, %d", x.car, x.cdr, d, int(e))
		}
		if d, e := datum.Car(x.pair); e != api.OK || !even(d, x.car) {
			t.Errorf("Car(%v) is %v, %d", x.pair, d, int(e))
		}
		if d, e := datum.Cdr(x.pair); e != api.OK || !even(d, x.cdr) {
			t.Errorf("Cdr(%v) is %v, %d", x.pair, d, int(e))
		}
	}
}

// P2.3, R2: what is neither a list with an element nor an improper list has no Car and no Cdr.
func TestNoPair(t *testing.T) {
	for _, d := range []api.Datum{num(1), {K: api.DBool, N: 1}, {K: api.DChar, N: 65}, str("ab"), sym("a", 1), list(), {K: api.DList, L: []api.Datum{}}, vec(), vec(num(1)), vec(num(1), num(2))} {
		if x, e := datum.Car(d); !none(x) || e != api.ErrNone {
			t.Error("Car", d, x, e)
		}
		if x, e := datum.Cdr(d); !none(x) || e != api.ErrNone {
			t.Error("Cdr", d, x, e)
		}
	}
}

// P2.3, R2: for invalid data there is Check's error; for a's ahead of d's.
func TestPairsOfInvalid(t *testing.T) {
	for _, x := range invalid() {
		if d, e := datum.Car(x.d); !none(d) || e != x.e {
			t.Errorf("Car, %s: %d", x.what, int(e))
		}
		if d, e := datum.Cdr(x.d); !none(d) || e != x.e {
			t.Errorf("Cdr, %s: %d", x.what, int(e))
		}
		for _, other := range []api.Datum{num(1), list(), list(num(1)), dot(num(2), num(1)), vec()} {
			if d, e := datum.Cons(x.d, other); !none(d) || e != x.e {
				t.Errorf("Cons, %s, %v: %d", x.what, other, int(e))
			}
			if d, e := datum.Cons(other, x.d); !none(d) || e != x.e {
				t.Errorf("Cons, %v, %s: %d", other, x.what, int(e))
			}
		}
		for _, second := range []api.Datum{{}, nest(64, num(1)), list(row(4096)...)} {
			if d, e := datum.Cons(x.d, second); !none(d) || e != x.e {
				t.Errorf("Cons, %s and more: %d", x.what, int(e))
			}
			if d, e := datum.Cons(second, x.d); !none(d) || e != datum.Check(second) {
				t.Errorf("Cons, more and %s: %d", x.what, int(e))
			}
		}
	}
}

// P2.3: a pair that would be too deep or too long, and those that only just are not.
func TestConsLimits(t *testing.T) {
	for _, x := range []struct {
		what string
		a, d api.Datum
		e    api.Errno
	}{
		{"a as deep as may be", nest(62, num(1)), list(), api.OK},
		{"a one too deep", nest(63, num(1)), list(), api.ErrDeep},
		{"a one too deep, ahead of a tail", nest(63, num(1)), num(1), api.ErrDeep},
		{"d as deep as may be", num(1), nest(63, num(1)), api.OK},
		{"d as deep as may be, improper", num(1), nest(62, dot(num(2), num(1))), api.OK},
		{"a tail as deep as may be", num(1), vec(nest(61, num(1))), api.OK},
		{"a tail one too deep", num(1), vec(nest(62, num(1))), api.ErrDeep},
		{"a list as long as may be", num(1), list(row(4094)...), api.OK},
		{"a list one too long", num(1), list(row(4095)...), api.ErrLong},
		{"an improper list as long as may be", num(1), dot(num(2), row(4093)...), api.OK},
		{"an improper list one too long", num(1), dot(num(2), row(4094)...), api.ErrLong},
		{"a tail as long as may be", num(1), vec(row(4093)...), api.OK},
		{"a tail one too long", num(1), vec(row(4094)...), api.ErrLong},
		{"a as long as may be", list(row(4094)...), list(), api.OK},
		{"a one too long", list(row(4095)...), list(), api.ErrLong},
		{"both together too long", list(row(2047)...), list(row(2048)...), api.ErrLong},
		{"both together as long as may be", list(row(2047)...), list(row(2047)...), api.OK},
		{"too deep ahead of too long", nest(63, num(1)), list(row(4095)...), api.ErrDeep},
		{"too long ahead of too deep", list(row(4095)...), vec(nest(62, num(1))), api.ErrLong},
	} {
		d, e := datum.Cons(x.a, x.d)
		if e != x.e || e != api.OK && !none(d) || e == api.OK && datum.Check(d) != api.OK {
			t.Errorf("%s: %d", x.what, int(e))
		}
	}
}

// P2.4: Car and Cdr of Cons are what was combined; Cons of Car and Cdr is the datum.
func TestPairLaws(t *testing.T) {
	combined, taken := 0, 0
	l := valid()
	for i, a := range l {
		for k, d := range l {
			if (i+k)%3 != 0 {
				continue
			}
			pair, e := datum.Cons(a, d)
			if e != api.OK {
				if e != api.ErrDeep && e != api.ErrLong {
					t.Errorf("Cons of %s and %s: %d", brief(a), brief(d), int(e))
				}
				continue
			}
			combined++
			car, e := datum.Car(pair)
			cdr, f := datum.Cdr(pair)
			if e != api.OK || f != api.OK || !even(car, a) || !even(cdr, d) {
				t.Errorf("Cons of %s and %s: %s, %d, %s, %d", brief(a), brief(d), brief(car), int(e), brief(cdr), int(f))
			}
		}
	}
	for _, d := range l {
		car, e := datum.Car(d)
		cdr, f := datum.Cdr(d)
		if e != f {
			t.Errorf("of %s Car is %d, Cdr %d", brief(d), int(e), int(f))
		}
		if e != api.OK {
			continue
		}
		taken++
		if pair, e := datum.Cons(car, cdr); e != api.OK || !even(pair, d) {
			t.Errorf("Cons of Car and Cdr of %s: %s, %d", brief(d), brief(pair), int(e))
		}
	}
	if combined < 1000 || taken < 30 {
		t.Error("hardly anything was a pair:", combined, taken)
	}
}

// P2.5: a list's Size is 1 and the Sizes of its elements; its Deep is 1 and their greatest.
func TestListLaws(t *testing.T) {
	l := grown(300)
	for i := range l {
		for _, part := range [][]api.Datum{nil, l[i : i+1], l[i:min(i+3, len(l))], l[i:min(i+9, len(l))]} {
			size, deep := 1, 0
			for _, d := range part {
				size += datum.Size(d)
				deep = max(deep, datum.Deep(d))
			}
			if d := datum.List(part...); datum.Size(d) != size || datum.Deep(d) != 1+deep {
				t.Fatal(part, datum.Size(d), datum.Deep(d))
			}
		}
	}
}

// makers are the calls that answer data: what each makes of one datum.
func makers() map[string]func(d api.Datum) []api.Datum {
	half := func(d api.Datum, _ api.Errno) []api.Datum { return []api.Datum{d} }
	return map[string]func(d api.Datum) []api.Datum{
		"Clone":       func(d api.Datum) []api.Datum { return []api.Datum{datum.Clone(d)} },
		"Plain":       func(d api.Datum) []api.Datum { return []api.Datum{datum.Plain(d)} },
		"All":         collect,
		"List":        func(d api.Datum) []api.Datum { return []api.Datum{datum.List(d, num(1), d)} },
		"Cons, ahead": func(d api.Datum) []api.Datum { return half(datum.Cons(d, list())) },
		"Cons, twice": func(d api.Datum) []api.Datum { return half(datum.Cons(d, d)) },
		"Cons, end":   func(d api.Datum) []api.Datum { return half(datum.Cons(num(1), d)) },
		"Car":         func(d api.Datum) []api.Datum { return half(datum.Car(d)) },
		"Cdr":         func(d api.Datum) []api.Datum { return half(datum.Cdr(d)) },
	}
}

// P2.2, P2.3, R3: an argument isn't changed, and an answer shares memory neither with it nor within itself.
func TestOwnMemory(t *testing.T) {
	for what, f := range makers() {
		kept, given, other := valid(), valid(), valid()
		for i, d := range given {
			answer := f(d)
			if !even(d, kept[i]) {
				t.Fatalf("%s changed %s to %s", what, brief(kept[i]), brief(d))
			}
			if shares(append(answer, d)...) {
				t.Fatalf("%s of %s shares memory", what, brief(d))
			}
			want := f(other[i])
			scribble(d)
			if !slices.EqualFunc(answer, want, even) {
				t.Fatalf("%s keeps the memory of %s", what, brief(kept[i]))
			}
			scribble(want...)
			if !even(other[i], kept[i]) {
				t.Fatalf("%s gives out the memory of %s", what, brief(kept[i]))
			}
		}
	}
}

// R3: what is in one place in the argument is in two in the answer.
func TestOwnMemoryOfTwins(t *testing.T) {
	for what, f := range makers() {
		for _, twins := range []api.Datum{bush(8), dot(vec(bush(3)), bush(4), bush(4))} {
			if shares(f(twins)...) {
				t.Errorf("%s: twins share memory", what)
			}
		}
	}
	for _, l := range [][]api.Datum{{{K: 99, L: row(2), T: row(2), M: ones(2)}}, {list(api.Datum{K: api.DFix, M: ones(3)}, dot(list(num(1)), num(2)))}} {
		d := datum.List(l...)
		if shares(append(l, d)...) {
			t.Error("List shares memory with what is invalid:", l)
		}
		scribble(l...)
		if d.L[0].K == 77 || len(d.L[0].L) == 2 && d.L[0].L[1].K == 77 {
			t.Error("List keeps the memory of what is invalid")
		}
	}
	l := row(3)
	if d := datum.List(l...); shares(list(l...), d) || cap(d.L) > 0 && &d.L[:cap(d.L)][0] == &l[0] {
		t.Error("List keeps the list of its elements")
	}
}

// R3: All yields what the datum was when it was called, whatever becomes of that, or of what was yielded.
func TestAllOwnMemory(t *testing.T) {
	for i, d := range valid() {
		all, want := datum.All(d), parts(valid()[i])
		scribble(d)
		for range 2 {
			seen := 0
			for x := range all {
				if !even(x, want[seen]) {
					t.Fatalf("node %d is %s, not %s", seen, brief(x), brief(want[seen]))
				}
				scribble(x)
				seen++
			}
			if seen != len(want) {
				t.Fatal("there were", seen, "not", len(want))
			}
		}
	}
}

// R4: the same calls have the same results.
func TestAgain(t *testing.T) {
	for what, f := range makers() {
		for _, d := range valid() {
			if !slices.EqualFunc(f(d), f(d), even) {
				t.Fatalf("%s of %s", what, brief(d))
			}
		}
	}
}
