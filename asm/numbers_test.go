package asm_test

import (
	"testing"

	"vault/api"
)

func TestNumbers(t *testing.T) {
	for spelled, n := range map[string]uint32{
		"0": 0, "-0": 0, "1": 1, "-1": 0xffffffff, "9": 9, "10": 10, "1234567890": 1234567890,
		"0000000000": 0, "0000000007": 7, "-0000000007": 0xfffffff9, "08": 8, "09": 9, "010": 10,
		"0x0": 0, "-0x0": 0, "0xa": 10, "0xA": 10, "0xfF": 255, "0x00000001": 1, "-0x1": 0xffffffff, "-0x00000010": 0xfffffff0,
		"0xdeadBEEF": 0xdeadbeef, "0x12345678": 0x12345678, "0x90abcdef": 0x90abcdef, "0x7fffffff": 0x7fffffff,
		"2147483647": 0x7fffffff, "2147483648": 0x80000000, "-2147483647": 0x80000001,
		"4294967295": 0xffffffff, "0xffffffff": 0xffffffff, "-2147483648": 0x80000000, "-0x80000000": 0x80000000,
	} {
		checkMade(t, []made{{".word " + spelled, []uint32{n}}})
		low := n & 0xfff
		high := (n - low) + low>>11<<12
		checkMade(t, []made{{"li x7, " + spelled, []uint32{0x3b7 | high, 0x38393 | low<<20}}})
	}
	for _, none := range []string{
		"", "-", "--1", "-1-", "1-", "1-1", "+1", "0x", "-0x", "0x-1", "0xg", "0xG", "0X1", "x1", "0x0x1", "1x0", "1a", "a", "ff", "0b1", "0o7", "1_0", "0x1_0", "1.", ".1", "1.0", "1e3", "'a'", "~1",
		"12345678901", "00000000000", "00000000001", "-00000000001", "0x123456789", "0x000000001", "-0x000000000", "0x1ffffffff", "99999999999999999999", "1h", "0h",
	} {
		checkAll(t, api.ErrForm, []string{".word " + none, "li x1, " + none, "addi x1, x1, " + none, "lui x1, " + none, "lw x1, " + none + "(x1)"})
	}
	for _, wide := range []string{"4294967296", "9999999999", "-2147483649", "-4294967295", "-9999999999", "-0x80000001", "-0xffffffff"} {
		checkAll(t, api.ErrRange, []string{".word " + wide, "li x1, " + wide, "li x0, " + wide})
	}
}

// TestRoom: the numbers at the edges of an instruction's room, and those beside them.
func TestRoom(t *testing.T) {
	checkMade(t, []made{
		{"lui x0, 524287\nlui x0, -524288", []uint32{0x7ffff037, 0x80000037}},
		{"lui x0, 0x7ffff\nlui x0, -0x80000", []uint32{0x7ffff037, 0x80000037}},
		{"jal x0, 1048574\njal x0, -1048576", []uint32{0x7ffff06f, 0x8000006f}},
		{"jalr x0, 2047(x0)\njalr x0, -2048(x0)", []uint32{0x7ff00067, 0x80000067}},
		{"beq x0, x0, 4094\nbeq x0, x0, -4096", []uint32{0x7e000fe3, 0x80000063}},
		{"beq x0, x0, 2\nbeq x0, x0, -2", []uint32{0x00000163, 0xfe000fe3}},
		{"sb x0, 2047(x0)\nsb x0, -2048(x0)", []uint32{0x7e000fa3, 0x80000023}},
		{"addi x0, x0, 2047\naddi x0, x0, -2048", []uint32{0x7ff00013, 0x80000013}},
		{"addi x0, x0, 0x7ff\naddi x0, x0, -0x800", []uint32{0x7ff00013, 0x80000013}},
		{"slli x0, x0, 31\nslli x0, x0, 0", []uint32{0x01f01013, 0x00001013}},
		{"fence x0, x0, 2047\nfence x0, x0, -2048", []uint32{0x7ff0000f, 0x8000000f}},
	})
	checkAll(t, api.ErrRange, []string{
		"lui x1, 524288", "lui x1, -524289", "lui x1, 0xfffff", "auipc x1, 524288", "auipc x1, -524289",
		"jal x1, 1048575", "jal x1, 1048576", "jal x1, -1048577", "jal x1, -1048578", "jal x1, 1", "jal x1, -1", "jal x1, 3",
		"jalr x1, 2048(x1)", "jalr x1, -2049(x1)",
		"beq x1, x2, 4095", "beq x1, x2, 4096", "beq x1, x2, -4097", "beq x1, x2, -4098", "bgeu x1, x2, 1",
		"lb x1, 2048(x1)", "lb x1, -2049(x1)", "lhu x1, 0xfff(x1)", "sw x1, 2048(x1)", "sw x1, -2049(x1)",
		"addi x1, x1, 2048", "addi x1, x1, -2049", "addi x1, x1, 0xfff", "addi x1, x1, 4294967295", "addi x1, x1, 4294967296", "addi x1, x1, 0xffffffff", "addi x1, x1, 9999999999", "addi x1, x1, -9999999999",
		"slli x1, x1, 32", "slli x1, x1, -1", "srli x1, x1, 32", "srai x1, x1, 32", "srai x1, x1, 1024", "fence x1, x1, 2048",
	})
}

func TestLi(t *testing.T) {
	checkMade(t, []made{
		{"li x2, 5", []uint32{0x00000137, 0x00510113}},
		{"li x2, -1", []uint32{0x00000137, 0xfff10113}},
		{"li x2, 4294967295", []uint32{0x00000137, 0xfff10113}},
		{"li x2, 0x7ff", []uint32{0x00000137, 0x7ff10113}},
		{"li x2, 0x800", []uint32{0x00001137, 0x80010113}},
		{"li x2, 0xfff", []uint32{0x00001137, 0xfff10113}},
		{"li x2, 0x1000", []uint32{0x00001137, 0x00010113}},
		{"li x2, -2048", []uint32{0x00000137, 0x80010113}},
		{"li x2, -2049", []uint32{0xfffff137, 0x7ff10113}},
		{"li x2, 0x7ffff7ff", []uint32{0x7ffff137, 0x7ff10113}},
		{"li x2, 0x7ffff800", []uint32{0x80000137, 0x80010113}},
		{"li x2, 0x7fffffff", []uint32{0x80000137, 0xfff10113}},
		{"li x2, 0x80000000", []uint32{0x80000137, 0x00010113}},
		{"li x2, -2147483648", []uint32{0x80000137, 0x00010113}},
		{"li x2, 0xfffff7ff", []uint32{0xfffff137, 0x7ff10113}},
		{"li x2, 0xfffff800", []uint32{0x00000137, 0x80010113}},
		{"li x0, 1", []uint32{0x00000037, 0x00100013}},
		{"li x31, 0x12345678\nli x1, 0", []uint32{0x12345fb7, 0x678f8f93, 0x000000b7, 0x00008093}},
	})
}
