package code

import (
	"strconv"

	"shuttle/api"
)

// instruction is what the instructions with a number are called, what their A means, and how many values they pop and push.
type instruction struct {
	name   string
	a      int
	pops   int // besides those that A or B counts
	pushes int
}

// What A means.
const (
	nothing   = iota
	constant  // the index of a constant
	global    // the index of a name
	parameter // the index of a parameter
	capture   // the index of a capture
	later     // the index of a later instruction
	procedure // the index of a code; B counts the values that are popped as its captures
	arguments // the number of values that are popped as arguments
)

var instructions = [...]instruction{
	api.OpConst:   {"const", constant, 0, 1},
	api.OpLocal:   {"local", parameter, 0, 1},
	api.OpCapt:    {"capt", capture, 0, 1},
	api.OpGlobal:  {"global", global, 0, 1},
	api.OpBox:     {"box", parameter, 0, 0},
	api.OpUnbox:   {"unbox", nothing, 1, 1},
	api.OpSetBox:  {"setbox", nothing, 2, 1},
	api.OpAssign:  {"assign", global, 1, 1},
	api.OpDefine:  {"define", global, 1, 1},
	api.OpJump:    {"jump", later, 0, 0},
	api.OpFalse:   {"false", later, 1, 0},
	api.OpClosure: {"closure", procedure, 0, 1},
	api.OpCall:    {"call", arguments, 1, 1},
	api.OpTail:    {"tail", arguments, 1, 0},
	api.OpReturn:  {"return", nothing, 1, 0},
	api.OpPop:     {"pop", nothing, 1, 0},
}

// pops is how many values an instruction takes from the stack.
func pops(in api.Ins) int {
	count := instructions[in.Op].pops
	switch instructions[in.Op].a {
	case procedure:
		count += in.B
	case arguments:
		count += in.A
	}
	return count
}

// ends tells whether an instruction continues nowhere.
func ends(op int) bool {
	return op == api.OpTail || op == api.OpReturn
}

// next are the instructions at which the one at an index continues.
func next(at int, in api.Ins) []int {
	switch {
	case ends(in.Op):
		return nil
	case in.Op == api.OpJump:
		return []int{in.A}
	case in.Op == api.OpFalse:
		return []int{at + 1, in.A}
	}
	return []int{at + 1}
}

// line is the text of the instruction at an index.
func line(at int, in api.Ins) string {
	s := strconv.Itoa(at) + " " + instructions[in.Op].name
	if instructions[in.Op].a != nothing {
		s += " " + strconv.Itoa(in.A)
	}
	if instructions[in.Op].a == procedure {
		s += " " + strconv.Itoa(in.B)
	}
	return s
}
