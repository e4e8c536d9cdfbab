package kern

import (
	"vault/api"
)

// The slots of a thread.
const (
	spaceSlot = 0
	rootSlot  = 1
	faultSlot = 2
	ownSlots  = 4
)

// thread: what a thread has beside its box and its place in the scheduler.
type thread struct {
	num     int
	state   int
	context api.Context
	caller  *thread // whose answer it owes; nil: nobody's
	waits   *thread // whose answer it waits for; nil: nobody's
	granted bool    // by the end to which it sent last
}

func (t *thread) slot(index int) api.Slot {
	return api.Slot{Box: t.num, Index: index}
}

// number tells who stands there, also where nobody does.
func (t *thread) number() int {
	if t == nil {
		return api.None
	}
	return t.num
}

// isHeld: it goes on when another one lets it, not by itself.
func (t *thread) isHeld() bool {
	return t.state != api.Ready && t.state != api.Idle
}

// set sets a thread's state: the scheduler knows just who is ready, so it is told just where that changes.
func (k *Kernel) set(t *thread, state int) {
	was := t.state
	t.state = state
	switch {
	case was != api.Ready && state == api.Ready:
		k.sched.Ready(t.num)
	case was == api.Ready && state != api.Ready:
		k.sched.Block(t.num)
	}
}

// address is the slot to which an address leads for a thread.
func (k *Kernel) address(t *thread, addr uint32) (api.Slot, api.Errno) {
	space, e := k.boxes.Get(t.slot(spaceSlot))
	if e != api.OK {
		return api.Slot{}, e
	}
	return k.boxes.Lookup(space, addr, addressBits)
}

// named is the slot to which an address leads, with its capability.
func (k *Kernel) named(t *thread, addr uint32) (api.Slot, api.Cap, api.Errno) {
	at, e := k.address(t, addr)
	if e != api.OK {
		return api.Slot{}, api.Cap{}, e
	}
	c, e := k.boxes.Get(at)
	return at, c, e
}

// wanted is as named; the capability is of a kind, and has these rights.
func (k *Kernel) wanted(t *thread, addr uint32, kind, rights int) (api.Slot, api.Cap, api.Errno) {
	at, c, e := k.named(t, addr)
	switch {
	case e != api.OK:
	case c.Kind != kind:
		e = api.ErrKind
	case !hasRights(c, rights):
		e = api.ErrRight
	}
	return at, c, e
}
