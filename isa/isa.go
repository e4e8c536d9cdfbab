// Package isa: instructions as words of 32 bits.
package isa

import (
	"strconv"

	"vault/api"
)

// Decode: what a word means; number 0: nothing.
func Decode(w uint32) api.Ins {
	for op := 1; op <= api.Ops; op++ {
		f := forms[op]
		if w&^loose(f.kind) == f.word {
			return read(op, w)
		}
	}
	return api.Ins{}
}

// Encode: ErrIns: no word means just that.
func Encode(i api.Ins) (uint32, api.Errno) {
	if i.Op < 1 || i.Op > api.Ops {
		return 0, api.ErrIns
	}
	// What has no room is cut off by build: then the word means another instruction.
	w := build(i)
	if Decode(w) != i {
		return 0, api.ErrIns
	}
	return w, api.OK
}

// Text: the line that means a word.
func Text(w uint32) string {
	i := Decode(w)
	if i == (api.Ins{}) {
		return ".word " + strconv.FormatUint(uint64(w), 10)
	}
	text := api.Name(i.Op)
	between := " "
	for _, letter := range api.Shape(i.Op) {
		text += between + operand(i, letter)
		between = ", "
	}
	return text
}

// operand is what a letter of api.Shape stands for.
func operand(i api.Ins, letter rune) string {
	switch letter {
	case 'd':
		return register(i.Rd)
	case 's':
		return register(i.Rs1)
	case 't':
		return register(i.Rs2)
	case 'm':
		return strconv.Itoa(i.Imm) + "(" + register(i.Rs1) + ")"
	}
	return strconv.Itoa(i.Imm)
}

func register(n int) string {
	return "x" + strconv.Itoa(n)
}
