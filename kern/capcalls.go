package kern

import (
	"vault/api"
)

func (k *Kernel) retype(t *thread) api.Errno {
	from, untyped, e := k.wanted(t, t.arg(0), api.Untyped, api.Write)
	if e != api.OK {
		return e
	}
	to, e := k.address(t, t.arg(3))
	if e != api.OK {
		return e
	}
	if t.arg(1) > api.Bell {
		return api.ErrKind
	}
	kind, size := int(t.arg(1)), int(t.arg(2))
	order := size
	if kind == api.Box {
		if !isBoxSize(size) {
			return api.ErrArg
		}
		order = 0
	}
	count := int(t.arg(4))
	if e := k.areEmpty(to, count); e != api.OK {
		return e
	}
	nums, e := k.pool.Give(untyped.Num, kind, order, count)
	for i, num := range nums {
		k.comeFor(t, api.Object{Kind: kind, Num: num}, size, api.Slot{Box: to.Box, Index: to.Index + i}, from)
	}
	return e
}

// areEmpty: so many slots are there from one on, and nothing is in them.
func (k *Kernel) areEmpty(first api.Slot, count int) api.Errno {
	size, _ := k.boxes.Size(first.Box)
	if count < 1 || count > size-first.Index {
		return api.ErrSlot
	}
	for i := range count {
		if k.isFull(api.Slot{Box: first.Box, Index: first.Index + i}) {
			return api.ErrFull
		}
	}
	return api.OK
}

// comeFor lets an object come that a thread made, with its first capability.
func (k *Kernel) comeFor(t *thread, o api.Object, slots int, at, from api.Slot) {
	k.come(o, slots)
	if o.Kind == api.Thread {
		domain, _, _, _ := k.sched.Look(t.num)
		k.sched.Add(o.Num, domain, 0)
	}
	k.boxes.Put(at, api.Cap{Object: o, Rights: allRights}, from)
}

func (k *Kernel) isFull(at api.Slot) bool {
	_, e := k.boxes.Get(at)
	return e == api.OK
}

// fromTo is what a capability goes from, and where to: that slot is empty.
func (k *Kernel) fromTo(t *thread) (from api.Slot, c api.Cap, to api.Slot, e api.Errno) {
	to, e = k.address(t, t.arg(0))
	if e != api.OK {
		return from, c, to, e
	}
	if k.isFull(to) {
		return from, c, to, api.ErrFull
	}
	from, c, e = k.named(t, t.arg(1))
	return from, c, to, e
}

func (k *Kernel) copyCap(t *thread) api.Errno {
	from, c, to, e := k.fromTo(t)
	if e != api.OK {
		return e
	}
	return k.boxes.Put(to, derived(c, t.rights(2)), from)
}

func (k *Kernel) mintCap(t *thread) api.Errno {
	from, c, to, e := k.fromTo(t)
	if e != api.OK {
		return e
	}
	c, e = minted(derived(c, t.rights(2)), t.arg(3), t.arg(4))
	if e != api.OK {
		return e
	}
	return k.boxes.Put(to, c, from)
}

// minted: a badge stays once it is given, since who gets there knows others by it; a guard may be another one each time, since it opens no more than the box does.
func minted(c api.Cap, word, bits uint32) (api.Cap, api.Errno) {
	switch c.Kind {
	case api.End, api.Bell:
		if c.Badge != 0 {
			return c, api.ErrState
		}
		c.Badge = word
	case api.Box:
		if bits > addressBits || uint64(word)>>bits != 0 {
			return c, api.ErrArg
		}
		c.Guard, c.GuardBits = word, int(bits)
	default:
		return c, api.ErrKind
	}
	return c, api.OK
}

func (k *Kernel) moveCap(t *thread) api.Errno {
	from, _, to, e := k.fromTo(t)
	if e != api.OK {
		return e
	}
	return k.boxes.Move(from, to)
}

func (k *Kernel) deleteNamed(t *thread) api.Errno {
	at, _, e := k.named(t, t.arg(0))
	if e == api.OK {
		k.remove(at)
	}
	return e
}

func (k *Kernel) revokeNamed(t *thread) api.Errno {
	at, _, e := k.named(t, t.arg(0))
	if e == api.OK {
		k.revoke(at)
	}
	return e
}
