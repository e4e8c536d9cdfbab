package asm_test

import (
	"strconv"
	"strings"
	"testing"

	"vault/api"
	"vault/asm"
	"vault/isa"
)

// made is a text, and the words that it makes.
type made struct {
	text  string
	words []uint32
}

// refused is a text, why it is refused, and at which line.
type refused struct {
	text string
	e    api.Errno
	line int
}

func bytesOf(words ...uint32) string {
	var b []byte
	for _, w := range words {
		b = append(b, byte(w), byte(w>>8), byte(w>>16), byte(w>>24))
	}
	return string(b)
}

func checkMade(t *testing.T, all []made) {
	t.Helper()
	for _, x := range all {
		want := bytesOf(x.words...)
		b, e, line := asm.Assemble(x.text)
		if b != want || e != api.OK || line != 0 {
			t.Errorf("Assemble(%q) is %x, %d, %d, wanted %x", x.text, b, e, line, want)
		}
	}
}

func checkRefused(t *testing.T, all []refused) {
	t.Helper()
	for _, x := range all {
		b, e, line := asm.Assemble(x.text)
		if b != "" || e != x.e || line != x.line {
			t.Errorf("Assemble(%q) is %x, %d, %d, wanted %d, %d", x.text, b, e, line, x.e, x.line)
		}
	}
}

// checkAll: each of these lines, by itself, is refused so.
func checkAll(t *testing.T, e api.Errno, lines []string) {
	t.Helper()
	for _, l := range lines {
		checkRefused(t, []refused{{l, e, 1}, {"ecall\n\n" + l + "\n", e, 3}})
	}
}

func TestExamples(t *testing.T) {
	if b, e, line := asm.Assemble("a: jal x0, a"); b != "\x6f\x00\x00\x00" || e != api.OK || line != 0 {
		t.Errorf("a jump to itself is %x, %d, %d", b, e, line)
	}
	checkMade(t, []made{
		{"li x1, 0x800", []uint32{0x000010b7, 0x80008093}},
		{"lui x1, 1\naddi x1, x1, -2048", []uint32{0x000010b7, 0x80008093}},
		{"lw x1, 4(x2)", []uint32{0x00412083}},
		{"lw x1,4 ( x2 )", []uint32{0x00412083}},
	})
	checkRefused(t, []refused{
		{"lw x1, x2", api.ErrForm, 1},
		{"nop", api.ErrWord, 1},
		{"addi x1, x1, 2048", api.ErrRange, 1},
		{"jal x0, nowhere", api.ErrName, 1},
		{"jal x0, 3", api.ErrRange, 1},
		{"addi x32, x1, 0", api.ErrForm, 1},
		{"b: b: ecall", api.ErrWord, 1},
		{"b:\nb:", api.ErrTwice, 2},
	})
}

func TestLinesAndTokens(t *testing.T) {
	ecall, addi, lw := uint32(0x73), uint32(0x00500093), uint32(0x00412083)
	checkMade(t, []made{
		{"", nil},
		{"\n", nil},
		{" \t ", nil},
		{"#", nil},
		{"# ecall", nil},
		{"ecall#ebreak", []uint32{ecall}},
		{"#ecall\necall", []uint32{ecall}},
		{"ecall # one # \xff and : another\necall#", []uint32{ecall, ecall}},
		{"ecall\n", []uint32{ecall}},
		{"\n\n\tecall\t\n\n ecall \n", []uint32{ecall, ecall}},
		{"addi x1,x0,5", []uint32{addi}},
		{"addi\tx1\t,\tx0\t,\t5", []uint32{addi}},
		{"   addi   x1   ,   x0   ,   5   ", []uint32{addi}},
		{"lw x1,4(x2)#", []uint32{lw}},
		{"lw\tx1 ,4\t(x2 )", []uint32{lw}},
		{"a:lw x1,4(x2)", []uint32{lw}},
		{"a :lw x1,4(x2)", []uint32{lw}},
		{"\ta\t:\tlw x1,4(x2)", []uint32{lw}},
		{"a:#lw", nil},
	})
	checkRefused(t, []refused{
		{"a#:\necall", api.ErrWord, 1},
		{"ecall\r\necall", api.ErrForm, 1},
		{"ecall\n\recall", api.ErrWord, 2},
		{"ecall\x00", api.ErrForm, 1},
		{"ecall\v", api.ErrForm, 1},
		{"ecall\f", api.ErrForm, 1},
		{"ecall\u00a0", api.ErrForm, 1},
		{"addi x1, x0, 5;", api.ErrForm, 1},
		{"addi x 1, x0, 5", api.ErrForm, 1},
		{"addi x1, x0, - 5", api.ErrForm, 1},
		{"addi x1, x0, 0x 5", api.ErrForm, 1},
		{"ad di x1, x0, 5", api.ErrWord, 1},
		{"addix1, x0, 5", api.ErrWord, 1},
		{". word 5", api.ErrWord, 1},
		{"ecall-", api.ErrWord, 1},
		{"ecall_", api.ErrWord, 1},
		{"ecall.", api.ErrWord, 1},
		{"ecall0", api.ErrWord, 1},
		{"ecallA", api.ErrWord, 1},
		{"\u00e9call", api.ErrWord, 1},
	})
}

func TestLabelNames(t *testing.T) {
	for _, name := range []string{"a", "Z", "_", ".", "a9", "_9", ".9", "a.b_c", "azAZ09._", "ecall", "li", ".word", "x5", "x", "xyz", "x1f", strings.Repeat("n", 500)} {
		checkMade(t, []made{
			{name + ": jal x0, " + name, []uint32{0x6f}},
			{"beq x1, x2, " + name + "\n" + name + ":", []uint32{0x00208263}},
		})
		checkRefused(t, []refused{
			{name + ": ecall\n" + name + ": ecall", api.ErrTwice, 2},
			{"jal x0, " + name, api.ErrName, 1},
		})
	}
	for _, none := range []string{"9a", "0", "9", "-", "a-b", "a-", "-a", "-1", "0x1", "(", ",", ":", ")", "\xff", "$", "@", "/", "[", "`", "{", "\r"} {
		checkRefused(t, []refused{{none + ":", api.ErrWord, 1}, {none + " : ecall", api.ErrWord, 1}})
	}
	// Labels differ by case, and by all of their bytes.
	checkMade(t, []made{{"a: ecall\nA:\nab:\na.:\na_:\njal x0, a", []uint32{0x73, 0xffdff06f}}})
	checkAll(t, api.ErrWord, []string{"b: b: ecall", ": ecall", ":", "a b: ecall", "ecal: nop", "9a: nop", "a: :", "a:: ecall", "ecall :b"})
	checkAll(t, api.ErrForm, []string{"ecall a:", "a: ecall:"})
}

func TestWhatLabelsAreWorth(t *testing.T) {
	checkMade(t, []made{
		{"a: jal x0, a\njal x0, a\njal x0, a", []uint32{0x0000006f, 0xffdff06f, 0xff9ff06f}},
		{"jal x0, b\necall\nb: ebreak", []uint32{0x0080006f, 0x00000073, 0x00100073}},
		{"jal x0, end\nend:", []uint32{0x0040006f}},
		{"a:\nb:\n\n# none\nc: jal x1, a\njal x1, b\njal x1, c", []uint32{0x000000ef, 0xffdff0ef, 0xff9ff0ef}},
		// li is of eight bytes, .word of four, and a label alone of none.
		{"a: li x1, 0\nb:\n.word 7\nc: beq x1, x2, a\nbeq x1, x2, b\nbeq x1, x2, c", []uint32{0x000000b7, 0x00008093, 7, 0xfe208ae3, 0xfe208ce3, 0xfe208ce3}},
		{"bne x3, x4, a\nli x1, 0\na:", []uint32{0x00419663, 0x000000b7, 0x00008093}},
		{"bgeu x3, x4, a\n.word 0\na:", []uint32{0x0041f463, 0}},
	})
	// A branch reaches 4094 bytes ahead and 4096 back: labels, 4092 and 4096.
	nops := func(n int) string { return strings.Repeat("ecall\n", n) }
	reach := func(words int, at int, want uint32) {
		t.Helper()
		text := "beq x1, x2, b\n" + nops(words) + "b:"
		if at > 0 {
			text = "b: " + nops(words) + "beq x1, x2, b"
		}
		b, e, line := asm.Assemble(text)
		if want == 0 {
			if b != "" || e != api.ErrRange || line != 1+at {
				t.Errorf("a branch over %d words: %d bytes, %d, %d", words, len(b), e, line)
			}
			return
		}
		if e != api.OK || line != 0 || len(b) != 4*words+4 || b[4*at:4*at+4] != bytesOf(want) {
			t.Errorf("a branch over %d words: %d bytes, %d, %d", words, len(b), e, line)
		}
	}
	reach(1022, 0, 0x7e208ee3)
	reach(1023, 0, 0)
	reach(1024, 1024, 0x80208063)
	reach(1025, 1025, 0)
}

func TestShapes(t *testing.T) {
	checkMade(t, []made{
		{"lui x31, 524287", []uint32{0x7fffffb7}},
		{"auipc x6, -524288", []uint32{0x80000317}},
		{"jal x1, -4", []uint32{0xffdff0ef}},
		{"jalr x7, -2048(x30)", []uint32{0x800f03e7}},
		{"bne x3, x4, 4094", []uint32{0x7e419fe3}},
		{"blt x5, x6, -4096", []uint32{0x8062c063}},
		{"lhu x9, 12(x31)", []uint32{0x00cfd483}},
		{"sw x8, 12(x2)", []uint32{0x00812623}},
		{"slti x14, x15, -2048", []uint32{0x8007a713}},
		{"srai x28, x29, 17", []uint32{0x411ede13}},
		{"sub x13, x14, x15", []uint32{0x40f706b3}},
		{"remu x1, x2, x3", []uint32{0x023170b3}},
		{"fence x1, x2, 255", []uint32{0x0ff1008f}},
		{"ecall", []uint32{0x00000073}},
		{"ebreak", []uint32{0x00100073}},
	})
	checkAll(t, api.ErrForm, []string{
		"ecall x1", "ecall 0", "ecall ,", "ebreak ebreak",
		"lui", "lui x1", "lui x1,", "lui x1 5", "lui ,x1, 5", "lui x1,, 5", "lui x1, 5,", "lui x1, 5 5", "lui 5, x1", "lui x1, x2", "lui x1, a", "lui x1, 5(x2)",
		"jal", "jal x1", "jal x1 a", "jal a", "jal a, a", "jal 4", "jal x1, a b", "jal x1, a:", "jal x1, -a", "jal x1, 9a", "jal x1, a-b", "jal x1, -", "jal x1, (", "jal x1, a, a", "jal x1, 4(x2)",
		"jalr x1, x2, 5", "jalr x1, a", "jalr x1, 4", "jalr x1, (x2)", "jalr x1, 4 x2", "jalr x1, 4(x2", "jalr x1, 4(2)", "jalr x1, 4(x2))", "jalr x1, 4((x2)", "jalr x1, 4)x2(", "jalr x1, 4, (x2)", "jalr x1, a(x2)", "jalr x1 4(x2)",
		"beq x1, a", "beq x1, x2", "beq x1, x2,", "beq x1, x2, 9a", "beq x1, 4, x2", "beq a, x1, x2", "beq x1 x2, 4", "beq x1, x2 4", "beq x1, x2, 4, 4",
		"lw x1, 4(x2) 5", "lw x1, 4(x2),", "lw 4(x2), x1", "lw x1", "lw x1, 4[x2]",
		"sw x1, x2", "sw x1, 4", "sw 4(x2), x1", "sw x1, 4(x32)",
		"addi x1, x2", "addi x1, 5", "addi x1, x2, x3", "addi x1, x2, a", "addi x1, x2, 5, 5", "addi 1, x2, 5", "addi x1, x2 5", "addi x1 x2, 5",
		"slli x1, x2, x3", "fence", "fence x1, x2",
		"add x1, x2", "add x1, x2, 5", "add x1, x2, x3, x4", "add x1, x2, x3,", "add x1, x2, a", "add x1 x2 x3", "add, x1, x2, x3", "add (x1), x2, x3",
		".word", ".word x1", ".word a", ".word 1, 2", ".word 1 2", ".word ,1", ".word (1)",
		"li", "li x1", "li x1,", "li x1 5", "li 5", "li x1, x2", "li x1, a", "li x1, 5, 5", "li x1, 5 5", "li 5, x1", "li x1,, 5", "li x32, 5",
	})
	checkAll(t, api.ErrWord, []string{"nop", "ADD x1, x2, x3", "Ecall", "word 5", ".WORD 5", ".byte 5", "LI x1, 5", "-", "5", "x1", ",", "(", "add. x1, x2, x3", "mv x1, x2", "\xff", "\x00"})
}

// TestTextsOfWords: what isa tells of a word is read as that word.
func TestTextsOfWords(t *testing.T) {
	w := uint32(1)
	seen := map[int]bool{}
	for n := 0; n < 200000; n++ {
		w = w*1664525 + 1013904223
		word := w ^ w>>16
		if n%2 == 0 {
			word = word&^0x7f | [...]uint32{0x37, 0x17, 0x6f, 0x67, 0x63, 0x03, 0x23, 0x13, 0x33, 0x0f, 0x73}[n/2%11]
		}
		if n%3 == 0 {
			word &= 0x41ffffff
		}
		if n%22 == 20 {
			word &= 0x00100000 | 0x7f
		}
		seen[isa.Decode(word).Op] = true
		text := isa.Text(word)
		if b, e, line := asm.Assemble(text); b != bytesOf(word) || e != api.OK || line != 0 {
			t.Fatalf("Assemble(%q) is %x, %d, %d, wanted %08x", text, b, e, line, word)
		}
	}
	for op := range api.Ops + 1 {
		if !seen[op] {
			t.Errorf("no word of Op %d was tried", op)
		}
	}
}

func TestRegisters(t *testing.T) {
	for n := range 32 {
		x := "x" + strconv.Itoa(n)
		r := uint32(n)
		checkMade(t, []made{
			{"add " + x + ", x0, x0", []uint32{0x33 | r<<7}},
			{"add x0, " + x + ", x0", []uint32{0x33 | r<<15}},
			{"add x0, x0, " + x, []uint32{0x33 | r<<20}},
			{"lw x0, 0(" + x + ")", []uint32{0x2003 | r<<15}},
			{"sw " + x + ", 0(x0)", []uint32{0x2023 | r<<20}},
			{"beq " + x + ", x0, 0", []uint32{0x63 | r<<15}},
			{"beq x0, " + x + ", 0", []uint32{0x63 | r<<20}},
			{"li " + x + ", 0", []uint32{0x37 | r<<7, 0x13 | r<<7 | r<<15}},
		})
	}
	for _, none := range []string{"x32", "x99", "x100", "x00", "x01", "x031", "x-1", "x-0", "x", "X1", "x1a", "xx1", "1", "0", "a0", "ra", "zero", "x0x1", "x1.", "x_1", "x18446744073709551616", "x4294967297", "x+1", ".x1", "-x1"} {
		checkAll(t, api.ErrForm, []string{
			"add " + none + ", x1, x1", "add x1, " + none + ", x1", "add x1, x1, " + none,
			"lw " + none + ", 0(x1)", "lw x1, 0(" + none + ")", "beq " + none + ", x1, 0", "beq x1, " + none + ", 0", "li " + none + ", 0",
		})
	}
}
