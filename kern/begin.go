package kern

import (
	"vault/api"
	"vault/caps"
	"vault/ipc"
	"vault/mem"
	"vault/pool"
	"vault/sched"
)

// bare is a kernel with nothing in it, but of the size and the turns that a spec tells of.
func bare(s api.Spec) (*Kernel, api.Errno) {
	memory, e := mem.New(s.Pages)
	if e != api.OK {
		return nil, e
	}
	turns, e := sched.New(s.Turns)
	if e != api.OK {
		return nil, e
	}
	pages, _ := pool.New(s.Pages) // which may be so many, since mem took them
	k := &Kernel{memory: memory, boxes: caps.New(), pool: pages, sched: turns, bus: ipc.New(), threads: map[int]*thread{}, calls: s.Calls}
	for n := range k.irqs {
		k.irqs[n] = unbound()
	}
	return k, api.OK
}

// begin lets all come that the lists of a spec tell of; or a reason, and the place of a thing in its list.
func (k *Kernel) begin(s api.Spec) (api.Errno, int) {
	if e, at := each(s.Objects, k.addObject); e != api.OK {
		return e, at
	}
	if e, at := each(s.Bytes, k.addBytes); e != api.OK {
		return e, at
	}
	if e, at := each(s.Caps, k.addCap); e != api.OK {
		return e, at
	}
	if e, at := each(s.Maps, k.addMap); e != api.OK {
		return e, at
	}
	if e, at := each(s.Threads, k.addThread); e != api.OK {
		return e, at
	}
	if e, at := each(s.Irqs, k.addIrq); e != api.OK {
		return e, at
	}
	for num := range k.threads {
		k.sched.Add(num, 0, 0) // those that were told of are there already, and stay as they are
	}
	return api.OK, 0
}

// each adds the things of a list, up to the first one that is refused: why, and its place.
func each[T any](list []T, add func(T) api.Errno) (api.Errno, int) {
	for at, thing := range list {
		if e := add(thing); e != api.OK {
			return e, at
		}
	}
	return api.OK, 0
}

func (k *Kernel) addObject(s api.ObjectSpec) api.Errno {
	if s.Kind == api.Box && !isBoxSize(s.Size) {
		return api.ErrArg
	}
	if e := k.pool.Add(s.Object); e != api.OK {
		return e
	}
	k.come(s.Object, s.Size)
	return api.OK
}

func isBoxSize(slots int) bool {
	return slots >= 1 && slots <= api.MaxSlots && slots&(slots-1) == 0
}

// come gives an object of the pool what it has besides; slots are a box's.
func (k *Kernel) come(o api.Object, slots int) {
	if o.Kind == api.Untyped {
		return // what lies in its pages stays
	}
	k.memory.Zero(o.Num)
	switch o.Kind {
	case api.Box:
		k.boxes.Make(o.Num, slots)
	case api.Thread:
		k.boxes.Make(o.Num, ownSlots)
		k.threads[o.Num] = &thread{num: o.Num}
	case api.End, api.Bell:
		k.bus.Open(o.Num, o.Kind == api.Bell)
	}
}

func (k *Kernel) addBytes(s api.BytesSpec) api.Errno {
	page, offset := s.At/api.PageLen, s.At%api.PageLen
	if s.At < 0 || !k.isThere(api.Object{Kind: api.Frame, Num: page}) || len(s.Data) > api.PageLen-offset {
		return api.ErrName
	}
	return k.memory.Write(s.At, s.Data)
}

func (k *Kernel) addCap(s api.CapSpec) api.Errno {
	if !k.isThere(s.Cap.Object) {
		return api.ErrName
	}
	if !isWhole(s.Cap) {
		return api.ErrForm
	}
	if from, e := k.boxes.Get(s.From); e == api.OK && !mayCome(s.Cap, from) {
		return api.ErrForm
	}
	return k.boxes.Put(s.At, s.Cap, s.From)
}

// isThere tells of all that a capability can be of.
func (k *Kernel) isThere(o api.Object) bool {
	switch o.Kind {
	case api.Nothing:
		return false // a free page is told as such an object
	case api.Untyped:
		_, e := k.pool.Mark(o.Num)
		return e == api.OK
	case api.Irq:
		return isIrq(o.Num)
	case api.Port:
		return isPort(o.Num)
	}
	held, e := k.pool.At(o.Num)
	return e == api.OK && held == o
}

// isWhole: a capability that begins has what its kind has, and is mapped nowhere yet.
func isWhole(c api.Cap) bool {
	if c.Rights < 0 || c.Rights > allRights || c.Root != 0 || c.Va != 0 {
		return false
	}
	if c.Badge != 0 && c.Kind != api.End && c.Kind != api.Bell {
		return false
	}
	if c.Kind != api.Box {
		return c.Guard == 0 && c.GuardBits == 0
	}
	return c.GuardBits >= 0 && c.GuardBits <= addressBits && uint64(c.Guard)>>c.GuardBits == 0
}

// mayCome: what comes from a capability has no more than it.
func mayCome(c, from api.Cap) bool {
	return c.Object == from.Object && hasRights(from, c.Rights) && (from.Badge == 0 || from.Badge == c.Badge)
}

func (k *Kernel) addMap(s api.MapSpec) api.Errno {
	c, e := k.boxes.Get(s.At)
	if e != api.OK {
		return e
	}
	if c.Kind != api.Frame && c.Kind != api.Table {
		return api.ErrKind
	}
	if !k.isThere(api.Object{Kind: api.Root, Num: s.Root}) {
		return api.ErrName
	}
	return k.mapAt(s.At, c, s.Root, s.Va, s.Rights)
}

func (k *Kernel) addThread(s api.ThreadSpec) api.Errno {
	t := k.threads[s.Num]
	if t == nil {
		return api.ErrName
	}
	if e := k.sched.Add(s.Num, s.Domain, s.Prio); e != api.OK {
		return e
	}
	t.context = s.Context
	t.context.Regs[0] = 0
	if s.Ready {
		k.set(t, api.Ready)
	}
	return api.OK
}

func (k *Kernel) addIrq(s api.IrqSpec) api.Errno {
	if !isIrq(s.Line) {
		return api.ErrArg
	}
	if !k.isThere(api.Object{Kind: api.Bell, Num: s.Bell}) {
		return api.ErrName
	}
	i := &k.irqs[s.Line]
	if i.bell != api.None {
		return api.ErrTwice
	}
	i.bell, i.badge = s.Bell, s.Badge
	return api.OK
}
