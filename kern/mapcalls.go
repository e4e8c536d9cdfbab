package kern

import (
	"vault/api"
)

func (k *Kernel) mapNamedTable(t *thread) api.Errno {
	return k.mapNamed(t, api.Table, api.Write, 0)
}

func (k *Kernel) mapNamedFrame(t *thread) api.Errno {
	return k.mapNamed(t, api.Frame, 0, t.rights(3))
}

// mapNamed maps what a thread names, of a kind and with rights that are wanted, in the root that it names.
func (k *Kernel) mapNamed(t *thread, kind, wanted, rights int) api.Errno {
	at, c, e := k.wanted(t, t.arg(0), kind, wanted)
	if e != api.OK {
		return e
	}
	_, root, e := k.wanted(t, t.arg(1), api.Root, api.Write)
	if e != api.OK {
		return e
	}
	return k.mapAt(at, c, root.Num, t.arg(2), rights)
}

func (k *Kernel) unmapNamed(t *thread) api.Errno {
	at, c, e := k.named(t, t.arg(0))
	switch {
	case e != api.OK:
		return e
	case c.Kind != api.Frame && c.Kind != api.Table:
		return api.ErrKind
	case c.Root == 0:
		return api.ErrState
	}
	k.unmap(at)
	return api.OK
}
