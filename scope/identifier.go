package scope

import (
	"shuttle/api"
	"shuttle/datum"
)

// identifier is a symbol that can be compared. Behind its marks there are zeros: no mark is 0.
type identifier struct {
	text  string
	marks [api.MaxMarks]int32
}

// identify is the identifier of a datum, if that is a valid symbol.
func identify(d api.Datum) (identifier, bool) {
	if d.K != api.DSym || datum.Check(d) != api.OK {
		return identifier{}, false
	}
	x := identifier{text: d.S}
	for i, mark := range d.M {
		x.marks[i] = int32(mark)
	}
	return x, true
}

// symbol is the datum of an identifier.
func (x identifier) symbol() api.Datum {
	d := api.Datum{K: api.DSym, S: x.text}
	for _, mark := range x.marks[:x.many()] {
		d.M = append(d.M, int(mark))
	}
	return d
}

// many is how many marks an identifier has.
func (x identifier) many() int {
	for i, mark := range x.marks {
		if mark == 0 {
			return i
		}
	}
	return len(x.marks)
}

// unmark is an identifier without its last mark, and that mark, 0 if there is none.
func (x identifier) unmark() (identifier, int) {
	last := x.many() - 1
	if last < 0 {
		return x, 0
	}
	mark := x.marks[last]
	x.marks[last] = 0
	return x, int(mark)
}
