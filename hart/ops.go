package hart

// The Ops, as chapter 1 numbers them.
const (
	lui = iota + 1
	auipc
	jal
	jalr
	beq
	bne
	blt
	bge
	bltu
	bgeu
	lb
	lh
	lw
	lbu
	lhu
	sb
	sh
	sw
	addi
	slti
	sltiu
	xori
	ori
	andi
	slli
	srli
	srai
	add
	sub
	sll
	slt
	sltu
	xor
	srl
	sra
	or
	and
	fence
	ecall
	ebreak
	mul
	mulh
	mulhsu
	mulhu
	div
	divu
	rem
	remu
)

// length is how many bytes are loaded or stored.
func length(op int) uint32 {
	switch op {
	case lb, lbu, sb:
		return 1
	case lh, lhu, sh:
		return 2
	}
	return wordLen
}

// upper is where lui and auipc have their immediate.
func upper(imm uint32) uint32 {
	return imm << 12
}

// goes tells whether a branch does.
func goes(op int, a, b uint32) bool {
	switch op {
	case beq:
		return a == b
	case bne:
		return a != b
	case blt:
		return int32(a) < int32(b)
	case bge:
		return int32(a) >= int32(b)
	case bltu:
		return a < b
	}
	return a >= b
}

// sum is what an instruction makes of two numbers; of Ops with an immediate it is the second.
func sum(op int, a, b uint32) uint32 {
	by := b % 32
	switch op {
	case add, addi:
		return a + b
	case sub:
		return a - b
	case sll, slli:
		return a << by
	case srl, srli:
		return a >> by
	case sra, srai:
		return uint32(int32(a) >> by)
	case slt, slti:
		return number(int32(a) < int32(b))
	case sltu, sltiu:
		return number(a < b)
	case xor, xori:
		return a ^ b
	case or, ori:
		return a | b
	case and, andi:
		return a & b
	}
	return product(op, a, b)
}

// product is that of the Ops that multiply, and of those that divide.
func product(op int, a, b uint32) uint32 {
	switch op {
	case mul:
		return a * b
	case mulh:
		return uint32(int64(int32(a)) * int64(int32(b)) >> 32)
	case mulhsu:
		return uint32(int64(int32(a)) * int64(b) >> 32)
	case mulhu:
		return uint32(uint64(a) * uint64(b) >> 32)
	}
	return quotient(op, a, b)
}

// quotient need not look for the least number by -1: in Go that wraps round to itself, and leaves 0.
func quotient(op int, a, b uint32) uint32 {
	if b == 0 && (op == div || op == divu) {
		return 0xffffffff
	}
	if b == 0 {
		return a
	}
	switch op {
	case div:
		return uint32(int32(a) / int32(b))
	case divu:
		return a / b
	case rem:
		return uint32(int32(a) % int32(b))
	}
	return a % b
}

func number(is bool) uint32 {
	if is {
		return 1
	}
	return 0
}
