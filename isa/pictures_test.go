package isa_test

import (
	"testing"

	"vault/api"
	"vault/isa"
)

// pictures are those of the chapter, letter by letter: what the tests hold the package against.
var pictures = [api.Ops + 1]string{
	"",
	"tsrqponmlkjihgfedcbaDDDDD0110111",
	"tsrqponmlkjihgfedcbaDDDDD0010111",
	"ukjihgfedcbltsrqponmDDDDD1101111",
	"lkjihgfedcbaSSSSS000DDDDD1100111",
	"mkjihgfTTTTTSSSSS000edcbl1100011",
	"mkjihgfTTTTTSSSSS001edcbl1100011",
	"mkjihgfTTTTTSSSSS100edcbl1100011",
	"mkjihgfTTTTTSSSSS101edcbl1100011",
	"mkjihgfTTTTTSSSSS110edcbl1100011",
	"mkjihgfTTTTTSSSSS111edcbl1100011",
	"lkjihgfedcbaSSSSS000DDDDD0000011",
	"lkjihgfedcbaSSSSS001DDDDD0000011",
	"lkjihgfedcbaSSSSS010DDDDD0000011",
	"lkjihgfedcbaSSSSS100DDDDD0000011",
	"lkjihgfedcbaSSSSS101DDDDD0000011",
	"lkjihgfTTTTTSSSSS000edcba0100011",
	"lkjihgfTTTTTSSSSS001edcba0100011",
	"lkjihgfTTTTTSSSSS010edcba0100011",
	"lkjihgfedcbaSSSSS000DDDDD0010011",
	"lkjihgfedcbaSSSSS010DDDDD0010011",
	"lkjihgfedcbaSSSSS011DDDDD0010011",
	"lkjihgfedcbaSSSSS100DDDDD0010011",
	"lkjihgfedcbaSSSSS110DDDDD0010011",
	"lkjihgfedcbaSSSSS111DDDDD0010011",
	"0000000edcbaSSSSS001DDDDD0010011",
	"0000000edcbaSSSSS101DDDDD0010011",
	"0100000edcbaSSSSS101DDDDD0010011",
	"0000000TTTTTSSSSS000DDDDD0110011",
	"0100000TTTTTSSSSS000DDDDD0110011",
	"0000000TTTTTSSSSS001DDDDD0110011",
	"0000000TTTTTSSSSS010DDDDD0110011",
	"0000000TTTTTSSSSS011DDDDD0110011",
	"0000000TTTTTSSSSS100DDDDD0110011",
	"0000000TTTTTSSSSS101DDDDD0110011",
	"0100000TTTTTSSSSS101DDDDD0110011",
	"0000000TTTTTSSSSS110DDDDD0110011",
	"0000000TTTTTSSSSS111DDDDD0110011",
	"lkjihgfedcbaSSSSS000DDDDD0001111",
	"00000000000000000000000001110011",
	"00000000000100000000000001110011",
	"0000001TTTTTSSSSS000DDDDD0110011",
	"0000001TTTTTSSSSS001DDDDD0110011",
	"0000001TTTTTSSSSS010DDDDD0110011",
	"0000001TTTTTSSSSS011DDDDD0110011",
	"0000001TTTTTSSSSS100DDDDD0110011",
	"0000001TTTTTSSSSS101DDDDD0110011",
	"0000001TTTTTSSSSS110DDDDD0110011",
	"0000001TTTTTSSSSS111DDDDD0110011",
}

func isFixed(letter byte) bool { return letter == '0' || letter == '1' }

func isImm(letter byte) bool { return letter >= 'a' && letter <= 'u' }

// has tells whether a letter stands in an Op's picture.
func has(op int, letter byte) bool {
	for n := range len(pictures[op]) {
		if pictures[op][n] == letter {
			return true
		}
	}
	return false
}

// fits tells whether all noughts and ones of a picture stand in w.
func fits(picture string, w uint32) bool {
	for n := range len(picture) {
		if isFixed(picture[n]) && w>>(31-n)&1 != uint32(picture[n]-'0') {
			return false
		}
	}
	return true
}

// fill is the picture's word with what loose has where letters stand.
func fill(picture string, loose uint32) uint32 {
	w := uint32(0)
	for n := range len(picture) {
		bit := loose >> (31 - n) & 1
		if isFixed(picture[n]) {
			bit = uint32(picture[n] - '0')
		}
		w = w<<1 | bit
	}
	return w
}

// pictured is what w means by the picture of an Op.
func pictured(op int, w uint32) api.Ins {
	i := api.Ins{Op: op}
	top := 0
	for n := range 32 {
		bit := int(w >> (31 - n) & 1)
		letter := pictures[op][n]
		switch {
		case letter == 'D':
			i.Rd = i.Rd*2 + bit
		case letter == 'S':
			i.Rs1 = i.Rs1*2 + bit
		case letter == 'T':
			i.Rs2 = i.Rs2*2 + bit
		case isImm(letter):
			i.Imm += bit << (letter - 'a')
			top = max(top, 1<<(letter-'a'))
		}
	}
	if shifts := op >= 25 && op <= 27; !shifts && i.Imm >= top {
		i.Imm -= 2 * top
	}
	return i
}

// wanted is what w means by all pictures; two that fit are a fault of the table above.
func wanted(t *testing.T, w uint32) api.Ins {
	t.Helper()
	i := api.Ins{}
	for op := 1; op <= api.Ops; op++ {
		if !fits(pictures[op], w) {
			continue
		}
		if i.Op != 0 {
			t.Fatalf("%#x fits the pictures of %d and %d", w, i.Op, op)
		}
		i = pictured(op, w)
	}
	return i
}

// check holds Decode, and Encode of what it tells, against the pictures.
func check(t *testing.T, w uint32) {
	t.Helper()
	want := wanted(t, w)
	if got := isa.Decode(w); got != want {
		t.Fatalf("Decode(%#x) is %v, wanted %v", w, got, want)
	}
	v, e := isa.Encode(want)
	if want.Op == 0 && (v != 0 || e != api.ErrIns) {
		t.Fatalf("Encode(%v) is %#x, %d, wanted 0, ErrIns", want, v, e)
	}
	if want.Op != 0 && (v != w || e != api.OK) {
		t.Fatalf("Encode(%v) is %#x, %d, wanted %#x, OK", want, v, e, w)
	}
}

// next goes through words that look like noise, the same ones each time.
func next(w uint32) uint32 {
	return w*1664525 + 1013904223
}

func TestPicturesAreWhole(t *testing.T) {
	for op := 1; op <= api.Ops; op++ {
		if len(pictures[op]) != 32 {
			t.Errorf("the picture of %s has %d letters", api.Name(op), len(pictures[op]))
		}
	}
}

func TestEachBitOfEachPicture(t *testing.T) {
	for op := 1; op <= api.Ops; op++ {
		none, all := fill(pictures[op], 0), fill(pictures[op], 0xffffffff)
		check(t, none)
		check(t, all)
		for n := range 32 {
			check(t, none^1<<n)
			check(t, all^1<<n)
		}
	}
}

func TestPicturesWithNoise(t *testing.T) {
	loose := uint32(1)
	for op := 1; op <= api.Ops; op++ {
		for range 2000 {
			loose = next(loose)
			check(t, fill(pictures[op], loose^loose>>16))
		}
	}
}

func TestAllUpperBitsOfEachOpcode(t *testing.T) {
	for opcode := range uint32(128) {
		for upper := range uint32(1 << 10) {
			check(t, upper>>3<<25|upper&7<<12|opcode)
			check(t, upper>>3<<25|31<<20|31<<15|upper&7<<12|31<<7|opcode)
		}
	}
}

func TestSystemWordsWithOneBitMore(t *testing.T) {
	for n := range 32 {
		for m := range 32 {
			check(t, 0x00000073^1<<n^1<<m)
			check(t, 0x00100073^1<<n^1<<m)
		}
	}
}

func TestNoise(t *testing.T) {
	w := uint32(7)
	for range 200000 {
		w = next(w)
		check(t, w^w>>16)
	}
}
