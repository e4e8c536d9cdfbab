package caps_test

import (
	"fmt"
	"math"
	"testing"

	"vault/api"
	"vault/caps"
)

// box is a capability of a box, with a guard of so many bits.
func box(num, bits int, guard uint32) api.Cap {
	return api.Cap{Object: api.Object{Kind: api.Box, Num: num}, GuardBits: bits, Guard: guard}
}

func finds(t *testing.T, s *caps.Store, c api.Cap, addr uint32, bits int, want api.Slot) {
	t.Helper()
	if a, e := s.Lookup(c, addr, bits); a != want || e != api.OK {
		t.Errorf("Lookup(%v, %#x, %d): %v, %d, wanted %v", c, addr, bits, a, e, want)
	}
}

func findsNot(t *testing.T, s *caps.Store, c api.Cap, addr uint32, bits int, want api.Errno) {
	t.Helper()
	refused(t, s, fmt.Sprintf("Lookup(%v, %#x, %d)", c, addr, bits), want, func() api.Errno {
		a, e := s.Lookup(c, addr, bits)
		if a != none {
			t.Errorf("Lookup(%v, %#x, %d): %v, %d", c, addr, bits, a, e)
		}
		return e
	})
}

// sized is a store with boxes of 1, 2, 4, .. 64 slots, of which each has its size as its number.
func sized(t *testing.T) *caps.Store {
	t.Helper()
	s := caps.New()
	for n := 1; n <= 64; n *= 2 {
		is(t, "Make", s.Make(n, n), api.OK)
	}
	return s
}

func TestLookupExamples(t *testing.T) {
	s := with(t, 1)
	put(t, s, at(1, 3), frame, none)
	for i := range uint32(4) { // full or not
		finds(t, s, box(1, 30, 0), i, 32, at(1, int(i)))
	}
	findsNot(t, s, box(1, 30, 0), 4, 32, api.ErrSlot)
	is(t, "Make", s.Make(7, 1), api.OK)
	findsNot(t, s, box(7, 0, 0), 0, 32, api.ErrSlot)
	is(t, "Make", s.Make(5, 8), api.OK)
	finds(t, s, box(5, 29, 0), 2, 32, at(5, 2))
	findsNot(t, s, box(5, 29, 0), 9, 32, api.ErrSlot)
}

func TestLookupBits(t *testing.T) {
	s := sized(t)
	for _, bits := range []int{0, -1, 33, 34, 64, math.MaxInt, math.MinInt, 1<<32 + 3} {
		// The bits are looked at ahead of the capability.
		for _, c := range []api.Cap{box(8, 0, 0), box(9, 0, 0), frame, {}} {
			findsNot(t, s, c, 3, bits, api.ErrArg)
		}
	}
	for bits := 1; bits <= 32; bits++ {
		want := at(64, 45)
		switch {
		case bits < 6:
			findsNot(t, s, box(64, 0, 0), 45, bits, api.ErrSlot)
		default:
			finds(t, s, box(64, bits-6, 0), 45, bits, want)
		}
	}
}

// TestLookupLow: bits above those that are left do not count.
func TestLookupLow(t *testing.T) {
	s := sized(t)
	finds(t, s, box(8, 0, 0), 0xfffffffd, 3, at(8, 5))
	finds(t, s, box(8, 2, 1), 0xffffff_ed, 5, at(8, 5))
	findsNot(t, s, box(8, 2, 1), 0xffffff_fd, 5, api.ErrSlot)
	finds(t, s, box(1, 1, 1), 0xffffffff, 1, at(1, 0))
	findsNot(t, s, box(1, 1, 1), 0xfffffffe, 1, api.ErrSlot)
}

func TestLookupKind(t *testing.T) {
	s := sized(t)
	for kind := -1; kind <= 11; kind++ {
		c := box(8, 29, 0)
		c.Kind = kind
		if kind != api.Box {
			findsNot(t, s, c, 3, 32, api.ErrKind)
			c.GuardBits = 99
			findsNot(t, s, c, 3, 32, api.ErrKind)
		}
	}
	for _, num := range []int{0, 3, 5, -1, -8, 128, math.MaxInt, math.MinInt, 1<<32 + 8} {
		findsNot(t, s, box(num, 29, 0), 3, 32, api.ErrKind)
		findsNot(t, s, box(num, -1, 0), 3, 32, api.ErrKind)
	}
	is(t, "Drop", s.Drop(8), api.OK)
	findsNot(t, s, box(8, 29, 0), 3, 32, api.ErrKind)
}

func TestLookupGuardBits(t *testing.T) {
	s := sized(t)
	for _, bits := range []int{-1, -3, 33, 34, 29 + 32, math.MinInt, math.MaxInt, math.MaxInt - 2, 1<<32 + 29} {
		findsNot(t, s, box(8, bits, 0), 3, 32, api.ErrSlot)
		findsNot(t, s, box(1, bits, 0), 0, 32, api.ErrSlot)
	}
	finds(t, s, box(8, 29, 0), 3, 32, at(8, 3))
	findsNot(t, s, box(8, 30, 0), 3, 32, api.ErrSlot)
	findsNot(t, s, box(8, 28, 0), 3, 32, api.ErrEmpty)
	finds(t, s, box(1, 32, 0), 0, 32, at(1, 0))
	for bits := 1; bits <= 32; bits++ { // a box of one slot, and nothing to take
		findsNot(t, s, box(1, 0, 0), 0, bits, api.ErrSlot)
	}
}

func TestLookupGuard(t *testing.T) {
	s := sized(t)
	finds(t, s, box(1, 32, 0xffffffff), 0xffffffff, 32, at(1, 0))
	findsNot(t, s, box(1, 32, 0xffffffff), 0x7fffffff, 32, api.ErrSlot)
	finds(t, s, box(2, 31, 0x7fffffff), 0xfffffffe, 32, at(2, 0))
	finds(t, s, box(64, 26, 0x3abcdef), 0x3abcdef<<6|33, 32, at(64, 33))
	findsNot(t, s, box(64, 26, 0x3abcdee), 0x3abcdef<<6|33, 32, api.ErrSlot)
	// A guard with more bits than are taken is never met; where none are taken they are 0.
	findsNot(t, s, box(8, 2, 5), 1<<3, 5, api.ErrSlot)
	findsNot(t, s, box(8, 2, 5), 5<<3, 5, api.ErrSlot)
	findsNot(t, s, box(8, 0, 1), 1<<3, 3, api.ErrSlot)
	findsNot(t, s, box(8, 0, 1), 1<<3, 32, api.ErrSlot)
}

// TestLookupOnTheWay: 3 bits of box 8, guard 10 and 2 bits of box 4, guard 011 and 1 bit of box 2.
func TestLookupOnTheWay(t *testing.T) {
	s := sized(t)
	put(t, s, at(8, 5), box(4, 2, 2), none)
	put(t, s, at(4, 1), box(2, 3, 3), none)
	put(t, s, at(8, 6), frame, none)
	put(t, s, at(8, 7), box(99, 2, 2), none)
	put(t, s, at(4, 3), box(1, 0, 0), none)
	finds(t, s, box(8, 0, 0), 0b101_10_01_011_1, 11, at(2, 1))
	finds(t, s, box(8, 21, 0), 0b101_10_01_011_0, 32, at(2, 0))
	finds(t, s, box(8, 0, 0), 0b101_10_01, 7, at(4, 1))
	finds(t, s, box(8, 0, 0), 0b101_10_00, 7, at(4, 0))
	finds(t, s, box(8, 0, 0), 0b101, 3, at(8, 5))
	finds(t, s, box(8, 0, 0), 0b110, 3, at(8, 6))
	findsNot(t, s, box(8, 0, 0), 0b101_11_01, 7, api.ErrSlot)
	findsNot(t, s, box(8, 0, 0), 0b101_10_01_010_1, 11, api.ErrSlot)
	findsNot(t, s, box(8, 0, 0), 0b101_10_00_011_1, 11, api.ErrEmpty)
	findsNot(t, s, box(8, 0, 0), 0b100_10_01_011_1, 11, api.ErrEmpty)
	findsNot(t, s, box(8, 0, 0), 0b110_10_01_011_1, 11, api.ErrKind)
	findsNot(t, s, box(8, 0, 0), 0b111_10_01_011_1, 11, api.ErrKind)
	findsNot(t, s, box(8, 0, 0), 0b101_10_11_0, 8, api.ErrSlot)
	findsNot(t, s, box(8, 0, 0), 0b101_10_0, 6, api.ErrSlot)
	findsNot(t, s, box(8, 0, 0), 0b101_10_01_011, 10, api.ErrSlot)
	findsNot(t, s, box(8, 0, 0), 0b101_10_01_011_1_0, 12, api.ErrEmpty)
}

// TestLookupRound: boxes that lead to themselves and to each other end, as the bits do.
func TestLookupRound(t *testing.T) {
	s := sized(t)
	put(t, s, at(2, 0), box(2, 0, 0), none)
	put(t, s, at(2, 1), box(4, 0, 0), none)
	put(t, s, at(4, 3), box(2, 1, 1), none)
	put(t, s, at(1, 0), box(1, 1, 1), none)
	finds(t, s, box(2, 0, 0), 0, 32, at(2, 0))
	finds(t, s, box(2, 0, 0), 1, 32, at(2, 1))
	finds(t, s, box(2, 0, 0), 0b1_11_1_1_11, 7, at(4, 3))
	finds(t, s, box(1, 1, 1), math.MaxUint32, 32, at(1, 0))
	findsNot(t, s, box(1, 1, 1), math.MaxUint32-1, 32, api.ErrSlot)
}
