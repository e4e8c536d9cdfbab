package kern

import (
	"vault/api"
)

// stackReg is where a thread that begins looks for its stack.
const stackReg = 2

// threadOf is the thread that a call's first word names.
func (k *Kernel) threadOf(t *thread) (*thread, api.Errno) {
	_, c, e := k.wanted(t, t.arg(0), api.Thread, api.Write)
	if e != api.OK {
		return nil, e
	}
	return k.threads[c.Num], api.OK
}

// idleOf is the same, of a thread that stands still.
func (k *Kernel) idleOf(t *thread) (*thread, api.Errno) {
	other, e := k.threadOf(t)
	if e == api.OK && other.state != api.Idle {
		e = api.ErrState
	}
	return other, e
}

// gift is a capability that goes into a thread's slot, and where it comes from.
type gift struct {
	to, from api.Slot
	held     api.Cap
}

// setup puts nothing ahead of having looked at all.
func (k *Kernel) setup(t *thread) api.Errno {
	other, e := k.threadOf(t)
	if e != api.OK {
		return e
	}
	var gifts []gift
	for index, kind := range [...]int{spaceSlot: api.Box, rootSlot: api.Root, faultSlot: api.End} {
		addr := t.arg(1 + index)
		if addr == noAddress {
			continue
		}
		from, c, e := k.wanted(t, addr, kind, 0)
		if e != api.OK {
			return e
		}
		if k.isFull(other.slot(index)) {
			return api.ErrFull
		}
		gifts = append(gifts, gift{to: other.slot(index), from: from, held: derived(c, allRights)})
	}
	for _, g := range gifts {
		k.boxes.Put(g.to, g.held, g.from)
	}
	return api.OK
}

func (k *Kernel) setRegs(t *thread) api.Errno {
	other, e := k.idleOf(t)
	if e != api.OK {
		return e
	}
	other.context.Pc = t.arg(1)
	other.context.Regs[stackReg] = t.arg(2)
	other.context.Regs[firstReg] = t.arg(3)
	return api.OK
}

func (k *Kernel) resume(t *thread) api.Errno {
	other, e := k.idleOf(t)
	if e != api.OK {
		return e
	}
	k.set(other, api.Ready)
	return api.OK
}

func (k *Kernel) suspendNamed(t *thread) api.Errno {
	other, e := k.threadOf(t)
	if e != api.OK {
		return e
	}
	k.suspend(other)
	return api.OK
}

// setPrio: nobody lifts another one above itself.
func (k *Kernel) setPrio(t *thread) api.Errno {
	other, e := k.threadOf(t)
	if e != api.OK {
		return e
	}
	if t.arg(1) >= api.MaxPrio {
		return api.ErrArg
	}
	prio := int(t.arg(1))
	if _, own, _, _ := k.sched.Look(t.num); prio > own {
		return api.ErrRight
	}
	return k.sched.Prio(other.num, prio)
}
