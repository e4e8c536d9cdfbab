package asm_test

import (
	"strconv"
	"strings"
	"testing"

	"vault/api"
	"vault/asm"
)

// TestWhichError: of several the one that the chapter looks for first is told.
func TestWhichError(t *testing.T) {
	checkRefused(t, []refused{
		// In a line: the label, the first token, the operands.
		{"9a: nop", api.ErrWord, 1},
		{"9a: add x1", api.ErrWord, 1},
		{"b:\nb: nop", api.ErrTwice, 2},
		{"b:\nb: add x1", api.ErrTwice, 2},
		{"b:\nb: addi x1, x1, 2048", api.ErrTwice, 2},
		{"b:\n9b: jal x0, c", api.ErrWord, 2},
		{"nop x99, x99", api.ErrWord, 1},
		{"add x1\nnop", api.ErrForm, 1},
		// In a text: the first line of the first sort.
		{"nop\nadd x1", api.ErrWord, 1},
		{"b: nop\nb:", api.ErrWord, 1},
		{"b: add x1\nb: nop", api.ErrForm, 1},
		{"b:\nb:\nb:", api.ErrTwice, 2},
		{"b:\nc:\nc:\nb:", api.ErrTwice, 3},
		// Numbers and labels come behind all of these.
		{"addi x1, x1, 2048\nnop", api.ErrWord, 2},
		{"jal x0, c\nadd x1", api.ErrForm, 2},
		{"b: .word 4294967296\nb:", api.ErrTwice, 2},
		{"li x1, 4294967296\n\n\nx:\ny: 1", api.ErrWord, 5},
		{"jal x0, c\naddi x1, x1, 2048", api.ErrName, 1},
		{"addi x1, x1, 2048\njal x0, c", api.ErrRange, 1},
		{"ecall\n.word 4294967296\njal x0, c", api.ErrRange, 2},
		{"ecall\n\njal x0, c\nli x1, -2147483649", api.ErrName, 3},
		{"beq x1, x2, 1\nbeq x1, x2, c", api.ErrRange, 1},
		// What is wrong with a number's form is no matter of its room.
		{"addi x1, x1, 12345678901", api.ErrForm, 1},
		{"addi x32, x1, 2048", api.ErrForm, 1},
		{"addi x1, x1, 2048 5", api.ErrForm, 1},
		{"jal x0, c d", api.ErrForm, 1},
	})
}

func TestLimits(t *testing.T) {
	long := func(text string) {
		t.Helper()
		if b, e, line := asm.Assemble(text); b != "" || e != api.ErrLong || line != 0 {
			t.Errorf("a text of %d bytes and %d lines: %x, %d, %d", len(text), strings.Count(text, "\n")+1, b, e, line)
		}
	}
	fits := func(text string, want int) {
		t.Helper()
		if b, e, line := asm.Assemble(text); len(b) != want || e != api.OK || line != 0 {
			t.Errorf("a text of %d bytes and %d lines: %d bytes, %d, %d", len(text), strings.Count(text, "\n")+1, len(b), e, line)
		}
	}
	fits(strings.Repeat(" ", api.MaxText), 0)
	fits(strings.Repeat("#", api.MaxText), 0)
	fits(strings.Repeat("\n", api.MaxLines-1), 0)
	fits(strings.Repeat("li x1,0\n", api.MaxLines-1)+"li x1,0", 8*api.MaxLines)
	fits(strings.Repeat("\n", api.MaxLines-1)+strings.Repeat(" ", api.MaxText-api.MaxLines-4)+"ecall", 4)
	long(strings.Repeat(" ", api.MaxText+1))
	long("nop" + strings.Repeat(" ", api.MaxText))
	long(strings.Repeat("\n", api.MaxLines))
	long("nop" + strings.Repeat("\n", api.MaxLines))
	long(strings.Repeat("ecall\n", api.MaxLines))
	long(strings.Repeat("\n", api.MaxText+1))
	checkRefused(t, []refused{
		{strings.Repeat("\n", api.MaxLines-1) + "nop", api.ErrWord, api.MaxLines},
		{strings.Repeat("(", api.MaxText), api.ErrWord, 1},
		{strings.Repeat("a", api.MaxText), api.ErrWord, 1},
		{".word " + strings.Repeat("9", api.MaxText-6), api.ErrForm, 1},
		{"a: jal x0, " + strings.Repeat("a", api.MaxText-11), api.ErrName, 1},
	})
	// Labels stay apart, however many there are.
	all := ""
	for n := range api.MaxLines {
		all += "l" + strconv.Itoa(n) + ":\n"
	}
	fits(strings.TrimSuffix(all, "\n"), 0)
}

// TestAgain: a call leaves nothing behind for the next.
func TestAgain(t *testing.T) {
	checkMade(t, []made{{"b: ecall", []uint32{0x73}}, {"b: ecall", []uint32{0x73}}})
	checkRefused(t, []refused{{"b:\nnop", api.ErrWord, 2}, {"jal x0, b", api.ErrName, 1}, {"addi x1, x1, 2048", api.ErrRange, 1}})
	checkMade(t, []made{{"b: ecall", []uint32{0x73}}})
}
