package core

import (
	"iter"

	"shuttle/api"
)

// variables are the numbers of variables, each once.
type variables map[int]struct{}

func (s variables) has(v int) bool {
	_, ok := s[v]
	return ok
}

func (s variables) any(l []int) bool {
	for _, v := range l {
		if s.has(v) {
			return true
		}
	}
	return false
}

func (s variables) add(l []int) {
	for _, v := range l {
		s[v] = struct{}{}
	}
}

func (s variables) drop(l []int) {
	for _, v := range l {
		delete(s, v)
	}
}

// visit is a node, how deep it is, and whether it stands where a CoDefine may.
type visit struct {
	c    api.Core
	deep int
	top  bool
}

// visits yields the nodes of an expression in order.
// While it yields one, scope has, besides what it had, the variables of the CoLambdas that contain the node.
func visits(c api.Core, scope variables) iter.Seq[visit] {
	return func(yield func(visit) bool) {
		descend(visit{c, 1, true}, scope, yield)
	}
}

func descend(v visit, scope variables, yield func(visit) bool) bool {
	if !yield(v) {
		return false
	}
	scope.add(v.c.P)
	for _, x := range v.c.L {
		if !descend(visit{x, v.deep + 1, v.top && v.c.K == api.CoSeq}, scope, yield) {
			return false
		}
	}
	scope.drop(v.c.P)
	return true
}
