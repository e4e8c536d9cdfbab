package kern

import (
	"maps"
	"slices"

	"vault/api"
	"vault/vspace"
)

// Threads: how they stand, by their numbers.
func (k *Kernel) Threads() []api.ThreadLook {
	var list []api.ThreadLook
	for _, num := range slices.Sorted(maps.Keys(k.threads)) {
		list = append(list, k.look(k.threads[num]))
	}
	return list
}

func (k *Kernel) look(t *thread) api.ThreadLook {
	domain, prio, left, _ := k.sched.Look(t.num)
	at, _ := k.bus.Where(t.num)
	return api.ThreadLook{
		Num: t.num, State: t.state, Domain: domain, Prio: prio,
		At: at, Caller: t.caller.number(), Waits: t.waits.number(),
		Left: left, Context: t.context,
	}
}

// Entries, Objects, Peek, Line, Word, Mark, Queue, Turn: what the parts tell.
func (k *Kernel) Entries() []api.Entry {
	return k.boxes.Entries()
}

// Objects: see the chapter.
func (k *Kernel) Objects() []api.Object {
	return k.pool.Objects()
}

// Peek: see the chapter.
func (k *Kernel) Peek(at, n int) (string, api.Errno) {
	return k.memory.Read(at, n)
}

// Line: see the chapter.
func (k *Kernel) Line(id int) ([]int, api.Errno) {
	return k.bus.Line(id)
}

// Word: see the chapter.
func (k *Kernel) Word(id int) (uint32, api.Errno) {
	return k.bus.Word(id)
}

// Mark: see the chapter.
func (k *Kernel) Mark(num int) (int, api.Errno) {
	return k.pool.Mark(num)
}

// Queue: see the chapter.
func (k *Kernel) Queue(domain, prio int) ([]int, api.Errno) {
	return k.sched.Queue(domain, prio)
}

// Turn: see the chapter.
func (k *Kernel) Turn() (int, int) {
	return k.sched.Turn()
}

// Mappings: see the chapter.
func (k *Kernel) Mappings(r int) ([]api.Mapping, api.Errno) {
	return vspace.Mappings(k.memory, r)
}

// Size: see the chapter.
func (k *Kernel) Size(box int) (int, api.Errno) {
	return k.boxes.Size(box)
}

// Irq: a line's bell (None: none), badge, whether it is masked, whether it came meanwhile. ErrArg.
func (k *Kernel) Irq(n int) (int, uint32, bool, bool, api.Errno) {
	if !isIrq(n) {
		return 0, 0, false, false, api.ErrArg
	}
	i := k.irqs[n]
	return i.bell, i.badge, i.masked, i.pending, api.OK
}

// Waiting: the bytes that wait at a port: to be taken, to be drained. ErrArg.
func (k *Kernel) Waiting(n int) (string, string, api.Errno) {
	if !isPort(n) {
		return "", "", api.ErrArg
	}
	p := k.ports[n]
	return p.in, p.out, api.OK
}
