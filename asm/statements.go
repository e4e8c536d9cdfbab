package asm

import (
	"vault/api"
	"vault/isa"
)

// statement is what a line says behind its label.
type statement interface {
	// length is the number of its bytes: it is known ahead of what the labels are worth.
	length() int
	// words are what it makes where so many bytes are ahead of it; it gives up if a number has no room or a label is not there.
	words(ahead int, labels map[string]int) []uint32
}

const wordLen = 4

// The Ops that li is made of.
const (
	opLui  = 1
	opAddi = 19
)

// What .word and li take, with a sign or without.
const (
	leastWord = -1 << 31
	mostWord  = 1<<32 - 1
)

// nothing is what an empty line says.
type nothing struct{}

func (nothing) length() int {
	return 0
}

func (nothing) words(int, map[string]int) []uint32 {
	return nil
}

// instruction is one of an Op; if it names a label, that tells its immediate.
type instruction struct {
	ins   api.Ins
	label string
}

func (instruction) length() int {
	return wordLen
}

func (s instruction) words(ahead int, labels map[string]int) []uint32 {
	i := s.ins
	if s.label != "" {
		worth, there := labels[s.label]
		if !there {
			panic(api.ErrName)
		}
		i.Imm = worth - ahead
	}
	return []uint32{encoded(i)}
}

// datum is .word.
type datum struct {
	number int
}

func (datum) length() int {
	return wordLen
}

func (s datum) words(int, map[string]int) []uint32 {
	return []uint32{wrapped(s.number)}
}

// loading is li.
type loading struct {
	rd, number int
}

func (loading) length() int {
	return 2 * wordLen
}

func (s loading) words(int, map[string]int) []uint32 {
	n := wrapped(s.number)
	// addi takes its number with a sign: so lui has one more where the lower part is below 0.
	low := int32(n<<20) >> 20
	high := int32(n-uint32(low)) >> 12
	return []uint32{
		encoded(api.Ins{Op: opLui, Rd: s.rd, Imm: int(high)}),
		encoded(api.Ins{Op: opAddi, Rd: s.rd, Rs1: s.rd, Imm: int(low)}),
	}
}

// wrapped is a number of .word or li as a word.
func wrapped(number int) uint32 {
	if number < leastWord || number > mostWord {
		panic(api.ErrRange)
	}
	return uint32(number)
}

// encoded is an instruction as a word; what is read of a text is as it must be but for its immediate.
func encoded(i api.Ins) uint32 {
	w, e := isa.Encode(i)
	if e != api.OK {
		panic(api.ErrRange)
	}
	return w
}
