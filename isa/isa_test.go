package isa_test

import (
	"math"
	"testing"

	"vault/api"
	"vault/isa"
)

// samples have at least one word of each Op, as other assemblers make it.
var samples = []struct {
	w    uint32
	i    api.Ins
	text string
}{
	{0xfffff2b7, api.Ins{Op: 1, Rd: 5, Imm: -1}, "lui x5, -1"},
	{0x7fffffb7, api.Ins{Op: 1, Rd: 31, Imm: 524287}, "lui x31, 524287"},
	{0x80000317, api.Ins{Op: 2, Rd: 6, Imm: -524288}, "auipc x6, -524288"},
	{0xffdff0ef, api.Ins{Op: 3, Rd: 1, Imm: -4}, "jal x1, -4"},
	{0x0000006f, api.Ins{Op: 3}, "jal x0, 0"},
	{0x800f03e7, api.Ins{Op: 4, Rd: 7, Rs1: 30, Imm: -2048}, "jalr x7, -2048(x30)"},
	{0xfe208ee3, api.Ins{Op: 5, Rs1: 1, Rs2: 2, Imm: -4}, "beq x1, x2, -4"},
	{0x7e419fe3, api.Ins{Op: 6, Rs1: 3, Rs2: 4, Imm: 4094}, "bne x3, x4, 4094"},
	{0x8062c063, api.Ins{Op: 7, Rs1: 5, Rs2: 6, Imm: -4096}, "blt x5, x6, -4096"},
	{0x0083d463, api.Ins{Op: 8, Rs1: 7, Rs2: 8, Imm: 8}, "bge x7, x8, 8"},
	{0x00a4e0e3, api.Ins{Op: 9, Rs1: 9, Rs2: 10, Imm: 2048}, "bltu x9, x10, 2048"},
	{0xffefffe3, api.Ins{Op: 10, Rs1: 31, Rs2: 30, Imm: -2}, "bgeu x31, x30, -2"},
	{0xfff10083, api.Ins{Op: 11, Rd: 1, Rs1: 2, Imm: -1}, "lb x1, -1(x2)"},
	{0x7ff21183, api.Ins{Op: 12, Rd: 3, Rs1: 4, Imm: 2047}, "lh x3, 2047(x4)"},
	{0x80032283, api.Ins{Op: 13, Rd: 5, Rs1: 6, Imm: -2048}, "lw x5, -2048(x6)"},
	{0x00044383, api.Ins{Op: 14, Rd: 7, Rs1: 8}, "lbu x7, 0(x8)"},
	{0x00cfd483, api.Ins{Op: 15, Rd: 9, Rs1: 31, Imm: 12}, "lhu x9, 12(x31)"},
	{0xfea58fa3, api.Ins{Op: 16, Rs1: 11, Rs2: 10, Imm: -1}, "sb x10, -1(x11)"},
	{0x7ec69fa3, api.Ins{Op: 17, Rs1: 13, Rs2: 12, Imm: 2047}, "sh x12, 2047(x13)"},
	{0x00812623, api.Ins{Op: 18, Rs1: 2, Rs2: 8, Imm: 12}, "sw x8, 12(x2)"},
	{0x00500093, api.Ins{Op: 19, Rd: 1, Imm: 5}, "addi x1, x0, 5"},
	{0x8007a713, api.Ins{Op: 20, Rd: 14, Rs1: 15, Imm: -2048}, "slti x14, x15, -2048"},
	{0x7ff8b813, api.Ins{Op: 21, Rd: 16, Rs1: 17, Imm: 2047}, "sltiu x16, x17, 2047"},
	{0xfff9c913, api.Ins{Op: 22, Rd: 18, Rs1: 19, Imm: -1}, "xori x18, x19, -1"},
	{0x555aea13, api.Ins{Op: 23, Rd: 20, Rs1: 21, Imm: 1365}, "ori x20, x21, 1365"},
	{0xaaabfb13, api.Ins{Op: 24, Rd: 22, Rs1: 23, Imm: -1366}, "andi x22, x23, -1366"},
	{0x01fc9c13, api.Ins{Op: 25, Rd: 24, Rs1: 25, Imm: 31}, "slli x24, x25, 31"},
	{0x000ddd13, api.Ins{Op: 26, Rd: 26, Rs1: 27}, "srli x26, x27, 0"},
	{0x411ede13, api.Ins{Op: 27, Rd: 28, Rs1: 29, Imm: 17}, "srai x28, x29, 17"},
	{0x00c58533, api.Ins{Op: 28, Rd: 10, Rs1: 11, Rs2: 12}, "add x10, x11, x12"},
	{0x40f706b3, api.Ins{Op: 29, Rd: 13, Rs1: 14, Rs2: 15}, "sub x13, x14, x15"},
	{0x01289833, api.Ins{Op: 30, Rd: 16, Rs1: 17, Rs2: 18}, "sll x16, x17, x18"},
	{0x015a29b3, api.Ins{Op: 31, Rd: 19, Rs1: 20, Rs2: 21}, "slt x19, x20, x21"},
	{0x018bbb33, api.Ins{Op: 32, Rd: 22, Rs1: 23, Rs2: 24}, "sltu x22, x23, x24"},
	{0x01bd4cb3, api.Ins{Op: 33, Rd: 25, Rs1: 26, Rs2: 27}, "xor x25, x26, x27"},
	{0x01eede33, api.Ins{Op: 34, Rd: 28, Rs1: 29, Rs2: 30}, "srl x28, x29, x30"},
	{0x40105fb3, api.Ins{Op: 35, Rd: 31, Rs1: 0, Rs2: 1}, "sra x31, x0, x1"},
	{0x0041e133, api.Ins{Op: 36, Rd: 2, Rs1: 3, Rs2: 4}, "or x2, x3, x4"},
	{0x007372b3, api.Ins{Op: 37, Rd: 5, Rs1: 6, Rs2: 7}, "and x5, x6, x7"},
	{0x0000000f, api.Ins{Op: 38}, "fence x0, x0, 0"},
	{0x0ff1008f, api.Ins{Op: 38, Rd: 1, Rs1: 2, Imm: 255}, "fence x1, x2, 255"},
	{0xfff1008f, api.Ins{Op: 38, Rd: 1, Rs1: 2, Imm: -1}, "fence x1, x2, -1"},
	{0x00000073, api.Ins{Op: 39}, "ecall"},
	{0x00100073, api.Ins{Op: 40}, "ebreak"},
	{0x02a48433, api.Ins{Op: 41, Rd: 8, Rs1: 9, Rs2: 10}, "mul x8, x9, x10"},
	{0x02d615b3, api.Ins{Op: 42, Rd: 11, Rs1: 12, Rs2: 13}, "mulh x11, x12, x13"},
	{0x0307a733, api.Ins{Op: 43, Rd: 14, Rs1: 15, Rs2: 16}, "mulhsu x14, x15, x16"},
	{0x033938b3, api.Ins{Op: 44, Rd: 17, Rs1: 18, Rs2: 19}, "mulhu x17, x18, x19"},
	{0x036aca33, api.Ins{Op: 45, Rd: 20, Rs1: 21, Rs2: 22}, "div x20, x21, x22"},
	{0x039c5bb3, api.Ins{Op: 46, Rd: 23, Rs1: 24, Rs2: 25}, "divu x23, x24, x25"},
	{0x03cded33, api.Ins{Op: 47, Rd: 26, Rs1: 27, Rs2: 28}, "rem x26, x27, x28"},
	{0x03ff7eb3, api.Ins{Op: 48, Rd: 29, Rs1: 30, Rs2: 31}, "remu x29, x30, x31"},
}

func TestSamples(t *testing.T) {
	seen := [api.Ops + 1]bool{}
	for _, x := range samples {
		seen[x.i.Op] = true
		if i := isa.Decode(x.w); i != x.i {
			t.Errorf("Decode(%#x) is %v, wanted %v", x.w, i, x.i)
		}
		if w, e := isa.Encode(x.i); w != x.w || e != api.OK {
			t.Errorf("Encode(%v) is %#x, %d, wanted %#x, OK", x.i, w, e, x.w)
		}
		if text := isa.Text(x.w); text != x.text {
			t.Errorf("Text(%#x) is %q, wanted %q", x.w, text, x.text)
		}
	}
	for op := 1; op <= api.Ops; op++ {
		if !seen[op] {
			t.Errorf("no sample of %s", api.Name(op))
		}
	}
}

func TestWordsThatAreNone(t *testing.T) {
	for _, x := range []struct {
		w    uint32
		text string
	}{
		{0, ".word 0"},
		{1, ".word 1"},
		{0x7fffffff, ".word 2147483647"},
		{0x80000000, ".word 2147483648"},
		{0xffffffff, ".word 4294967295"},
		{0x00001067, ".word 4199"},       // jalr's, with the middle of another
		{0x00002063, ".word 8291"},       // a branch that there is not
		{0x00003003, ".word 12291"},      // a load of 64 bits
		{0x00003023, ".word 12323"},      // a store of 64 bits
		{0x02001013, ".word 33558547"},   // slli by 32
		{0x40001013, ".word 1073745939"}, // slli, with srai's bit
		{0x40001033, ".word 1073745971"}, // sll, with sub's bit
		{0x42000033, ".word 1107296307"}, // mul, with sub's bit
		{0x0000100f, ".word 4111"},       // fence.i
		{0x00200073, ".word 2097267"},    // uret
		{0x000000f3, ".word 243"},        // ecall with an Rd
		{0x00001073, ".word 4211"},       // csrrw
		{0x00000072, ".word 114"},
	} {
		if i := isa.Decode(x.w); i != (api.Ins{}) {
			t.Errorf("Decode(%#x) is %v, wanted none", x.w, i)
		}
		if text := isa.Text(x.w); text != x.text {
			t.Errorf("Text(%#x) is %q, wanted %q", x.w, text, x.text)
		}
	}
}

func refused(t *testing.T, i api.Ins) {
	t.Helper()
	if w, e := isa.Encode(i); w != 0 || e != api.ErrIns {
		t.Errorf("Encode(%v) is %#x, %d, wanted 0, ErrIns", i, w, e)
	}
}

func taken(t *testing.T, i api.Ins) {
	t.Helper()
	w, e := isa.Encode(i)
	if e != api.OK {
		t.Errorf("Encode(%v) is %#x, %d, wanted OK", i, w, e)
	}
	if got := isa.Decode(w); got != i {
		t.Errorf("Decode(%#x) is %v, wanted %v", w, got, i)
	}
}

func TestOpsThatThereAreNot(t *testing.T) {
	for _, op := range []int{0, -1, 49, 64, 256 + 19, 1<<32 + 19, math.MaxInt, math.MinInt} {
		refused(t, api.Ins{Op: op})
		refused(t, api.Ins{Op: op, Rd: 1, Rs1: 2, Rs2: 3, Imm: 4})
	}
}

// room is from which Imm to which an Op has words, and in which steps; Ops without Imm have 0 alone.
func room(op int) (low, high, step int) {
	switch {
	case op == 1 || op == 2:
		return -524288, 524287, 1
	case op == 3:
		return -1048576, 1048574, 2
	case op >= 5 && op <= 10:
		return -4096, 4094, 2
	case op >= 25 && op <= 27:
		return 0, 31, 1
	case op == 4 || op >= 11 && op <= 24 || op == 38:
		return -2048, 2047, 1
	}
	return 0, 0, 1
}

func TestEdgesOfImm(t *testing.T) {
	for op := 1; op <= api.Ops; op++ {
		low, high, step := room(op)
		taken(t, api.Ins{Op: op})
		taken(t, api.Ins{Op: op, Imm: low})
		taken(t, api.Ins{Op: op, Imm: high})
		for _, imm := range []int{low - 1, low - step, high + 1, high + step, 2*high + 2, 2*low - 2, low + 1<<32, high - 1<<32, 1 << 32, -1 << 32, math.MaxInt, math.MinInt, math.MaxInt32, math.MaxUint32} {
			refused(t, api.Ins{Op: op, Imm: imm})
		}
	}
}

func TestAllImmsOfEachOp(t *testing.T) {
	for op := 1; op <= api.Ops; op++ {
		low, high, step := room(op)
		for imm := max(low, -5000); imm <= min(high, 5000); imm += step {
			taken(t, api.Ins{Op: op, Imm: imm})
			if step == 2 {
				refused(t, api.Ins{Op: op, Imm: imm + 1})
			}
		}
	}
}

// with is i with one of its registers set, by the letter of the pictures.
func with(i api.Ins, letter byte, number int) api.Ins {
	switch letter {
	case 'D':
		i.Rd = number
	case 'S':
		i.Rs1 = number
	default:
		i.Rs2 = number
	}
	return i
}

func TestEdgesOfRegisters(t *testing.T) {
	for op := 1; op <= api.Ops; op++ {
		for _, letter := range []byte("DST") {
			i := api.Ins{Op: op}
			for number := 1; number < 32; number++ {
				if has(op, letter) {
					taken(t, with(i, letter, number))
				} else {
					refused(t, with(i, letter, number))
				}
			}
			for _, number := range []int{-1, -32, 32, 33, 63, 64, 1 << 32, 1<<32 + 1, math.MaxInt, math.MinInt} {
				refused(t, with(i, letter, number))
			}
		}
	}
}

func TestExamplesThatAreRefused(t *testing.T) {
	refused(t, api.Ins{Op: 19, Imm: 2048})
	refused(t, api.Ins{Op: 3, Imm: 3})
	refused(t, api.Ins{Op: 28, Imm: 1})
}
