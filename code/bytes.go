package code

import (
	"bytes"

	"shuttle/api"
	"shuttle/read"
)

// Bytes is the binary form of a program.
func Bytes(p api.Prog) ([]byte, api.Errno) {
	if !valid(p) {
		return nil, api.ErrCode
	}
	b := put(nil, len(p.Consts))
	for _, d := range p.Consts {
		text, e := read.Print(d)
		if e != api.OK {
			return nil, api.ErrLong
		}
		b = putText(b, text)
	}
	b = put(b, len(p.Names))
	for _, name := range p.Names {
		b = putText(b, name)
	}
	b = put(b, len(p.Codes))
	for _, c := range p.Codes {
		b = put(b, c.Params, c.Rest, c.Caps, c.Max, len(c.Ins))
		for _, in := range c.Ins {
			b = put(b, in.Op, in.A, in.B)
		}
	}
	return b, api.OK
}

// integer are the types of the numbers that are written.
type integer interface {
	~int | ~int16 | ~int32 | ~int64 | ~uint | ~uint16 | ~uint32 | ~uint64
}

// put appends numbers, of which each takes two bytes: in a valid program none is greater.
func put[N integer](b []byte, numbers ...N) []byte {
	for _, n := range numbers {
		b = append(b, byte(n>>8), byte(n))
	}
	return b
}

func putText(b []byte, s string) []byte {
	return append(put(b, len(s)), s...)
}

// Parse is the program with this binary form.
func Parse(b []byte) (api.Prog, api.Errno) {
	p := (&source{rest: b}).program()
	again, e := Bytes(p) // this tells whatever is wrong with the bytes, also that they end early or late
	if e != api.OK || !bytes.Equal(again, b) {
		return api.Prog{}, api.ErrBytes
	}
	return p, api.OK
}

// source is what has not been read yet of the binary form of a program. At its end it gives noughts.
type source struct{ rest []byte }

func (s *source) take(count int) []byte {
	count = min(count, len(s.rest))
	taken := s.rest[:count]
	s.rest = s.rest[count:]
	return taken
}

func (s *source) number() int {
	n := 0
	for _, digit := range s.take(2) {
		n = n<<8 | int(digit)
	}
	return n
}

func (s *source) text() string {
	return string(s.take(s.number()))
}

// each reads as many things as a number ahead of them tells, or as there are.
func (s *source) each(one func()) {
	for n := s.number(); n > 0 && len(s.rest) > 0; n-- {
		one()
	}
}

func (s *source) program() api.Prog {
	var p api.Prog
	s.each(func() {
		d, _ := read.One(s.text()) // where there is none, the program is invalid
		p.Consts = append(p.Consts, d)
	})
	s.each(func() { p.Names = append(p.Names, s.text()) })
	s.each(func() { p.Codes = append(p.Codes, s.code()) })
	return p
}

func (s *source) code() api.Code {
	c := api.Code{Params: s.number(), Rest: s.number(), Caps: s.number(), Max: s.number()}
	s.each(func() { c.Ins = append(c.Ins, api.Ins{Op: s.number(), A: s.number(), B: s.number()}) })
	return c
}
