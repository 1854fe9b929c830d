package pattern

import (
	"shuttle/api"
	"shuttle/datum"
)

// name is a symbol that can be compared. Behind its marks there are zeros: no mark is 0.
type name struct {
	text  string
	marks [api.MaxMarks]int32
}

// nameOf is the name of a valid symbol.
func nameOf(d api.Datum) name {
	n := name{text: d.S}
	for i, mark := range d.M {
		n.marks[i] = int32(mark)
	}
	return n
}

// isSymbol tells whether a datum is a symbol, and valid.
func isSymbol(d api.Datum) bool {
	return d.K == api.DSym && datum.Check(d) == api.OK
}

// Marks make no difference to what repeats and what matches everything.
func isEllipsis(d api.Datum) bool { return d.K == api.DSym && d.S == "..." }
func isWildcard(d api.Datum) bool { return d.K == api.DSym && d.S == "_" }

// isRepeated tells whether element i of l has an ellipsis behind it.
func isRepeated(l []api.Datum, i int) bool {
	return i+1 < len(l) && isEllipsis(l[i+1])
}

// ellipses counts the ellipses among the elements l, and tells whether each of them has something to repeat.
func ellipses(l []api.Datum) (int, bool) {
	count := 0
	for i, d := range l {
		if !isEllipsis(d) {
			continue
		}
		if i == 0 || isEllipsis(l[i-1]) {
			return 0, false
		}
		count++
	}
	return count, true
}

// literals are the names of lits, if these may be literals.
func literals(lits []api.Datum) (map[name]struct{}, bool) {
	names := map[name]struct{}{}
	for _, d := range lits {
		if !isSymbol(d) || isEllipsis(d) || isWildcard(d) {
			return nil, false
		}
		names[nameOf(d)] = struct{}{}
	}
	return names, true
}
