package core

import (
	"slices"

	"shuttle/api"
	"shuttle/datum"
)

// Same tells whether two expressions, valid or not, are equal, node by node.
func Same(a, b api.Core) bool {
	left := api.MaxCore
	return equal(a, b, 1, &left)
}

// equal counts the nodes that are left to it: invalid expressions may have no end.
func equal(a, b api.Core, deep int, left *int) bool {
	if deep > api.MaxNest || *left == 0 {
		return false
	}
	*left--
	return a.K == b.K && a.N == b.N && a.S == b.S && slices.Equal(a.P, b.P) && equalData(a.D, b.D) &&
		slices.EqualFunc(a.L, b.L, func(x, y api.Core) bool { return equal(x, y, deep+1, left) })
}

func equalData(a, b api.Datum) bool {
	return zero(a) && zero(b) || datum.Same(a, b)
}

// Alike tells whether two expressions are valid and equal but for the numbers of the variables that they bind.
func Alike(a, b api.Core) bool {
	return Check(a) == api.OK && Check(b) == api.OK && Same(numbered(a, map[int]int{}), numbered(b, map[int]int{}))
}

// numbered is a valid expression with its variables numbered anew, in the order in which they are bound.
// It shares the data of constants with the expression.
func numbered(c api.Core, numbers map[int]int) api.Core {
	c.P = slices.Clone(c.P)
	for i, v := range c.P {
		numbers[v] = len(numbers) + 1
		c.P[i] = numbers[v]
	}
	if uses(c) {
		c.N = int64(numbers[int(c.N)])
	}
	c.L = slices.Clone(c.L)
	for i, x := range c.L {
		c.L[i] = numbered(x, numbers)
	}
	return c
}
