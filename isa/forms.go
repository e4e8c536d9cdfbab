package isa

import (
	"vault/api"
)

// kind is where in a word the registers and the immediate lie.
type kind int

const (
	bare    kind = iota // neither registers nor an immediate
	upper               // Rd, and an immediate of 20 bits
	jump                // the same, the immediate being a distance
	short               // Rd, Rs1, and an immediate of 12 bits
	shift               // Rd, Rs1, and an immediate of 5 bits without a sign
	triple              // Rd, Rs1, Rs2
	branch              // Rs1, Rs2, and a distance of 13 bits
	storing             // Rs1, Rs2, and an immediate of 12 bits
)

// form is how an instruction's words are made: word has the bits that are the same in all of them, and noughts elsewhere.
type form struct {
	kind kind
	word uint32
}

// forms has the rows in the order of the Ops; the first one only makes an Op its row's index.
var forms = [api.Ops + 1]form{
	{bare, 0},
	{upper, 0x00000037},   // lui
	{upper, 0x00000017},   // auipc
	{jump, 0x0000006f},    // jal
	{short, 0x00000067},   // jalr
	{branch, 0x00000063},  // beq
	{branch, 0x00001063},  // bne
	{branch, 0x00004063},  // blt
	{branch, 0x00005063},  // bge
	{branch, 0x00006063},  // bltu
	{branch, 0x00007063},  // bgeu
	{short, 0x00000003},   // lb
	{short, 0x00001003},   // lh
	{short, 0x00002003},   // lw
	{short, 0x00004003},   // lbu
	{short, 0x00005003},   // lhu
	{storing, 0x00000023}, // sb
	{storing, 0x00001023}, // sh
	{storing, 0x00002023}, // sw
	{short, 0x00000013},   // addi
	{short, 0x00002013},   // slti
	{short, 0x00003013},   // sltiu
	{short, 0x00004013},   // xori
	{short, 0x00006013},   // ori
	{short, 0x00007013},   // andi
	{shift, 0x00001013},   // slli
	{shift, 0x00005013},   // srli
	{shift, 0x40005013},   // srai
	{triple, 0x00000033},  // add
	{triple, 0x40000033},  // sub
	{triple, 0x00001033},  // sll
	{triple, 0x00002033},  // slt
	{triple, 0x00003033},  // sltu
	{triple, 0x00004033},  // xor
	{triple, 0x00005033},  // srl
	{triple, 0x40005033},  // sra
	{triple, 0x00006033},  // or
	{triple, 0x00007033},  // and
	{short, 0x0000000f},   // fence
	{bare, 0x00000073},    // ecall
	{bare, 0x00100073},    // ebreak
	{triple, 0x02000033},  // mul
	{triple, 0x02001033},  // mulh
	{triple, 0x02002033},  // mulhsu
	{triple, 0x02003033},  // mulhu
	{triple, 0x02004033},  // div
	{triple, 0x02005033},  // divu
	{triple, 0x02006033},  // rem
	{triple, 0x02007033},  // remu
}

// Where a register's lowest bit lies, if a word has that register.
const (
	rdAt  = 7
	rs1At = 15
	rs2At = 20
)

const fiveBits = 31

// registers has ones where the words of a kind have registers.
func registers(k kind) uint32 {
	bits := uint32(0)
	switch k {
	case triple:
		bits |= fiveBits << rs2At
		fallthrough
	case short, shift:
		bits |= fiveBits << rs1At
		fallthrough
	case upper, jump:
		bits |= fiveBits << rdAt
	case branch, storing:
		bits |= fiveBits<<rs1At | fiveBits<<rs2At
	}
	return bits
}

// loose has ones where the words of a kind differ; an immediate of ones shows where immediates lie.
func loose(k kind) uint32 {
	return registers(k) | spread(k, 0xffffffff)
}

// read is the instruction op that w means; w is a word of it.
func read(op int, w uint32) api.Ins {
	k := forms[op].kind
	bits := w & registers(k)
	return api.Ins{
		Op:  op,
		Rd:  int(bits >> rdAt & fiveBits),
		Rs1: int(bits >> rs1At & fiveBits),
		Rs2: int(bits >> rs2At & fiveBits),
		Imm: gather(k, w),
	}
}

// build is the word of i's Op with as much of i as there is room for.
func build(i api.Ins) uint32 {
	f := forms[i.Op]
	bits := uint32(i.Rd)&fiveBits<<rdAt | uint32(i.Rs1)&fiveBits<<rs1At | uint32(i.Rs2)&fiveBits<<rs2At
	return f.word | bits&registers(f.kind) | spread(f.kind, uint32(i.Imm))
}

// gather is the immediate of a word of that kind.
func gather(k kind, w uint32) int {
	// Shifts of a number with a sign repeat a word's highest bit, which is the immediate's sign in all kinds that have one.
	signed := int32(w)
	switch k {
	case upper:
		return int(signed >> 12)
	case jump:
		return int(signed>>31<<20 | int32(w&0x000ff000|w>>9&0x800|w>>20&0x7fe))
	case short:
		return int(signed >> 20)
	case shift:
		return int(w >> 20 & 0x1f)
	case branch:
		return int(signed>>31<<12 | int32(w<<4&0x800|w>>20&0x7e0|w>>7&0x1e))
	case storing:
		return int(signed>>25<<5 | int32(w>>7&0x1f))
	}
	return 0
}

// spread lays an immediate's bits where gather finds them.
func spread(k kind, imm uint32) uint32 {
	switch k {
	case upper:
		return imm << 12
	case jump:
		return imm<<11&0x80000000 | imm<<20&0x7fe00000 | imm<<9&0x00100000 | imm&0x000ff000
	case short:
		return imm << 20
	case shift:
		return imm << 20 & 0x01f00000
	case branch:
		return imm<<19&0x80000000 | imm<<20&0x7e000000 | imm<<7&0x00000f00 | imm>>4&0x00000080
	case storing:
		return imm<<20&0xfe000000 | imm<<7&0x00000f80
	}
	return 0
}
