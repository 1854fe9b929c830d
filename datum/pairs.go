package datum

import (
	"slices"

	"shuttle/api"
)

// List is the list of these data, whatever they are.
func List(l ...api.Datum) api.Datum {
	list := api.Datum{K: api.DList, L: make([]api.Datum, len(l))}
	for i, d := range l {
		list.L[i] = own(d)
	}
	return list
}

// Cons is the datum of which a is the Car and d the Cdr.
func Cons(a, d api.Datum) (api.Datum, api.Errno) {
	for _, half := range []api.Datum{a, d} {
		if e := Check(half); e != api.OK {
			return api.Datum{}, e
		}
	}
	pair := api.Datum{K: api.DDot, L: []api.Datum{a}, T: []api.Datum{d}}
	if d.K == api.DList || d.K == api.DDot {
		pair = d
		pair.L = slices.Concat([]api.Datum{a}, d.L)
	}
	if e := Check(pair); e != api.OK {
		return api.Datum{}, e
	}
	return own(pair), api.OK
}

// Car is the first element of a list, Cdr what is behind it.
func Car(d api.Datum) (api.Datum, api.Errno) {
	if e := paired(d); e != api.OK {
		return api.Datum{}, e
	}
	return own(d.L[0]), api.OK
}

func Cdr(d api.Datum) (api.Datum, api.Errno) {
	if e := paired(d); e != api.OK {
		return api.Datum{}, e
	}
	if d.K == api.DDot && len(d.L) == 1 {
		return own(d.T[0]), api.OK
	}
	rest := d
	rest.L = d.L[1:]
	return own(rest), api.OK
}

// paired is OK for a datum that has a Car and a Cdr.
func paired(d api.Datum) api.Errno {
	if e := Check(d); e != api.OK {
		return e
	}
	if d.K != api.DList && d.K != api.DDot || len(d.L) == 0 {
		return api.ErrNone
	}
	return api.OK
}
