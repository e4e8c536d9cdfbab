package caps

import (
	"math/bits"

	"vault/api"
)

// addressBits is how many bits an address has.
const addressBits = 32

// Lookup: the slot at an address of so many bits, by way of boxes from one on. ErrArg; ErrKind: no box; ErrSlot; ErrEmpty: on the way.
func (s *Store) Lookup(c api.Cap, addr uint32, left int) (api.Slot, api.Errno) {
	if left < 1 || left > addressBits {
		return noSlot, api.ErrArg
	}
	for {
		at, rest, e := s.lead(c, addr, left)
		if e != api.OK || rest == 0 {
			return at, e
		}
		if c, e = s.Get(at); e != api.OK {
			return noSlot, e
		}
		left = rest // less than before, so this ends, also where a box leads to itself
	}
}

// lead is where the next bits of an address lead from a capability of a box, and how many are left behind them.
func (s *Store) lead(c api.Cap, addr uint32, left int) (api.Slot, int, api.Errno) {
	size, e := s.Size(c.Num)
	if c.Kind != api.Box || e != api.OK {
		return noSlot, 0, api.ErrKind
	}
	radix := bits.Len(uint(size)) - 1
	guard := c.GuardBits
	if guard < 0 || guard > addressBits || guard+radix == 0 || guard+radix > left {
		return noSlot, 0, api.ErrSlot
	}
	left -= guard
	if field(addr, left, guard) != c.Guard {
		return noSlot, 0, api.ErrSlot
	}
	left -= radix
	return api.Slot{Box: c.Num, Index: int(field(addr, left, radix))}, left, api.OK
}

// field is n bits of a number, above the lowest ones; of all 32 the mask wraps round to ones alone.
func field(number uint32, lowest, n int) uint32 {
	return number >> lowest & (1<<n - 1)
}
