package asm

import (
	"strconv"
	"strings"

	"vault/api"
)

// reader reads a line's tokens from the left; what is not as it must be gives up.
type reader struct {
	tokens []string
}

// next takes a token; "": there is none, since no token is empty.
func (r *reader) next() string {
	if len(r.tokens) == 0 {
		return ""
	}
	token := r.tokens[0]
	r.tokens = r.tokens[1:]
	return token
}

// atLabel: a label, or what stands in its place, is ahead.
func (r *reader) atLabel() bool {
	return len(r.tokens) > 1 && r.tokens[1] == ":"
}

// label takes a label and its colon.
func (r *reader) label() string {
	name := r.next()
	if !isName(name) {
		panic(api.ErrWord)
	}
	r.must(":")
	return name
}

// statement takes all that is left of a line.
func (r *reader) statement() statement {
	first := r.next()
	if first == "" {
		return nothing{}
	}
	s := r.named(first)
	if len(r.tokens) > 0 {
		panic(api.ErrForm)
	}
	return s
}

// named takes the operands of a statement.
func (r *reader) named(first string) statement {
	switch first {
	case ".word":
		return datum{r.number()}
	case "li":
		rd := r.register()
		r.must(",")
		return loading{rd, r.number()}
	}
	op := opOf(first)
	if op == 0 {
		panic(api.ErrWord)
	}
	return r.instruction(op)
}

// instruction takes the operands of an Op, as api.Shape tells them.
func (r *reader) instruction(op int) instruction {
	s := instruction{ins: api.Ins{Op: op}}
	for i, letter := range api.Shape(op) {
		if i > 0 {
			r.must(",")
		}
		switch letter {
		case 'd':
			s.ins.Rd = r.register()
		case 's':
			s.ins.Rs1 = r.register()
		case 't':
			s.ins.Rs2 = r.register()
		case 'i':
			s.ins.Imm = r.number()
		case 'j':
			s.ins.Imm, s.label = r.target()
		case 'm':
			s.ins.Imm = r.number()
			r.must("(")
			s.ins.Rs1 = r.register()
			r.must(")")
		}
	}
	return s
}

// must takes just that token.
func (r *reader) must(token string) {
	if r.next() != token {
		panic(api.ErrForm)
	}
}

func (r *reader) register() int {
	token := r.next()
	n, err := strconv.Atoi(strings.TrimPrefix(token, "x"))
	// A number has many spellings, but a register one alone.
	if err != nil || n < 0 || n > 31 || token != "x"+strconv.Itoa(n) {
		panic(api.ErrForm)
	}
	return n
}

func (r *reader) number() int {
	n, ok := numberOf(r.next())
	if !ok {
		panic(api.ErrForm)
	}
	return n
}

// target takes a number or a label's name.
func (r *reader) target() (int, string) {
	token := r.next()
	if isName(token) {
		return 0, token
	}
	n, ok := numberOf(token)
	if !ok {
		panic(api.ErrForm)
	}
	return n, ""
}

// opOf is the Op of that name; 0: there is none.
func opOf(name string) int {
	for op := 1; op <= api.Ops; op++ {
		if api.Name(op) == name {
			return op
		}
	}
	return 0
}
