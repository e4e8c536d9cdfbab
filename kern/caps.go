package kern

import (
	"vault/api"
	"vault/vspace"
)

const (
	allRights   = api.Read | api.Write | api.Grant
	addressBits = 32
	// tableLen is how many bytes of addresses a table serves.
	tableLen uint32 = 4194304
)

func hasRights(c api.Cap, rights int) bool {
	return rights&^c.Rights == 0
}

// derived: the same object, with no more rights; where the one is mapped the other is not.
func derived(c api.Cap, rights int) api.Cap {
	c.Rights &= rights
	c.Root, c.Va = 0, 0
	return c
}

// tableStart is the first address that a table serves which serves this one.
func tableStart(va uint32) uint32 {
	return va - va%tableLen
}

// mapAt maps the capability of a frame or table that stands in a slot.
func (k *Kernel) mapAt(at api.Slot, c api.Cap, root int, va uint32, rights int) api.Errno {
	if c.Root > 0 {
		return api.ErrState
	}
	var e api.Errno
	if c.Kind == api.Table {
		va = tableStart(va)
		e = k.mapTable(c.Object, root, va)
	} else {
		e = k.mapFrame(c, root, va, rights)
	}
	if e != api.OK {
		return e
	}
	c.Root, c.Va = root+1, va
	return k.boxes.Set(at, c)
}

// mapTable: a table is mapped at one place at most, whichever capability did it.
func (k *Kernel) mapTable(table api.Object, root int, va uint32) api.Errno {
	for _, at := range k.boxes.Holders(table) {
		if c, _ := k.boxes.Get(at); c.Root > 0 {
			return api.ErrState
		}
	}
	return vspace.Table(k.memory, root, va, table.Num)
}

func (k *Kernel) mapFrame(c api.Cap, root int, va uint32, rights int) api.Errno {
	if !hasRights(c, rights) {
		return api.ErrRight
	}
	return vspace.Map(k.memory, root, va, c.Num, rights)
}
