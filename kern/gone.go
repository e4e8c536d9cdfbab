package kern

import (
	"slices"

	"vault/api"
	"vault/vspace"
)

// unmap unmaps what stands in a slot, where it is mapped.
func (k *Kernel) unmap(at api.Slot) {
	c, _ := k.boxes.Get(at)
	switch {
	case c.Root == 0:
		return
	case c.Kind == api.Table:
		k.unmapTable(c)
	default:
		vspace.Unmap(k.memory, c.Root-1, c.Va, c.Num)
	}
	k.boxes.Set(at, derived(c, allRights))
}

// unmapTable: no capability may say that it is mapped where no table is any more, so the frames go first.
func (k *Kernel) unmapTable(c api.Cap) {
	for _, x := range k.boxes.Entries() {
		if x.Cap.Kind == api.Frame && x.Cap.Root == c.Root && tableStart(x.Cap.Va) == c.Va {
			k.unmap(x.At)
		}
	}
	vspace.NoTable(k.memory, c.Root-1, c.Va, c.Num)
}

// unmapRoot unmaps all that a root maps. (Frames may go with their tables: unmap looks once more.)
func (k *Kernel) unmapRoot(root int) {
	for _, x := range k.boxes.Entries() {
		if x.Cap.Root == root+1 {
			k.unmap(x.At)
		}
	}
}

// remove: what nobody can name any more is destroyed.
func (k *Kernel) remove(at api.Slot) {
	k.unmap(at)
	c, e := k.boxes.Take(at)
	if e == api.OK && len(k.boxes.Holders(c.Object)) == 0 {
		k.destroy(c.Object)
	}
}

// revoke removes all that comes from a slot, whatever else goes with that.
func (k *Kernel) revoke(at api.Slot) {
	below, _ := k.boxes.Below(at)
	for _, slot := range slices.Backward(below) {
		k.remove(slot)
	}
}

func (k *Kernel) destroy(o api.Object) {
	switch o.Kind {
	case api.Port:
		return
	case api.Irq:
		k.irqs[o.Num] = unbound()
		return
	case api.Root:
		k.unmapRoot(o.Num)
	case api.Box:
		k.dropBox(o.Num)
	case api.Thread:
		k.dropThread(k.threads[o.Num])
	case api.End, api.Bell:
		k.closePlace(o.Num)
	}
	if o.Kind != api.Untyped { // in whose pages there may be other objects
		k.memory.Zero(o.Num)
	}
	k.pool.Remove(o)
}

func (k *Kernel) dropBox(num int) {
	size, _ := k.boxes.Size(num)
	for index := range size {
		k.remove(api.Slot{Box: num, Index: index})
	}
	k.boxes.Drop(num)
}

// dropThread: who waits for its answer stays as it stands, for ever or till another one lets it go on.
func (k *Kernel) dropThread(t *thread) {
	k.suspend(t)
	if t.caller != nil {
		t.caller.waits = nil
	}
	k.sched.Remove(t.num)
	delete(k.threads, t.num)
	k.dropBox(t.num)
}

// closePlace: who waited there goes on, and is told; but who told of a fault can't go on.
func (k *Kernel) closePlace(num int) {
	waited, _ := k.bus.Close(num)
	for _, who := range waited {
		t := k.threads[who]
		if t.state == api.Faulting {
			k.set(t, api.Idle)
			continue
		}
		t.context.Regs[errReg] = uint32(api.ErrGone)
		k.set(t, api.Ready)
	}
	for n := range k.irqs {
		if k.irqs[n].bell == num {
			k.irqs[n] = unbound()
		}
	}
}

// suspend: a thread stands still, and nobody counts on it to wait.
func (k *Kernel) suspend(t *thread) {
	k.bus.Cancel(t.num)
	if t.waits != nil {
		t.waits.caller = nil
		t.waits = nil
	}
	k.set(t, api.Idle)
}
