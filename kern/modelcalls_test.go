package kern_test

import (
	"cmp"
	"fmt"
	"slices"
	"strings"

	"vault/api"
)

// firsts: the kind (0: any that may be) and the right that register 10 is wanted with, in the calls from 12 on.
var firsts = map[uint32][2]int{
	api.CallRetype: {api.Untyped, api.Write}, api.CallDelete: {}, api.CallRevoke: {}, api.CallUnmap: {},
	api.CallTable: {api.Table, api.Write}, api.CallMap: {api.Frame, 0},
	api.CallSetup: {api.Thread, api.Write}, api.CallRegs: {api.Thread, api.Write}, api.CallResume: {api.Thread, api.Write}, api.CallSuspend: {api.Thread, api.Write}, api.CallPrio: {api.Thread, api.Write},
	api.CallBind: {api.Irq, api.Write}, api.CallAck: {api.Irq, api.Write}, api.CallPut: {api.Port, api.Write}, api.CallTake: {api.Port, api.Read},
}

func (m *model) wanted(c *card, address uint32, kind, right int) (api.Entry, api.Errno) {
	x, e := m.named(c, address)
	switch {
	case e != api.OK:
		return x, e
	case kind != 0 && x.Cap.Kind != kind:
		return x, api.ErrKind
	case x.Cap.Rights|right != x.Cap.Rights:
		return x, api.ErrRight
	}
	return x, api.OK
}

// more: the calls from 12 on.
func (m *model) more(c *card, call uint32) api.Errno {
	x := c.Context.Regs
	want, ok := firsts[call]
	if !ok {
		return m.spread(c, call)
	}
	held, e := m.wanted(c, x[10], want[0], want[1])
	if e != api.OK {
		return e
	}
	n := held.Cap.Num
	switch call {
	case api.CallRetype:
		return m.retype(c, held)
	case api.CallDelete:
		m.remove(held.At)
	case api.CallRevoke:
		l := m.below(held.At)
		for i := len(l) - 1; i >= 0; i-- {
			m.remove(l[i])
		}
		if _, ok := m.heap[held.At]; !ok {
			m.seen["revoked with its own slot"]++
		}
	case api.CallTable, api.CallMap:
		root, e := m.wanted(c, x[11], api.Root, api.Write)
		if e != api.OK {
			return e
		}
		return m.mapAt(held, api.MapSpec{At: held.At, Root: root.Cap.Num, Va: x[12], Rights: int(x[13] % 8)})
	case api.CallUnmap:
		if held.Cap.Kind != api.Frame && held.Cap.Kind != api.Table {
			return api.ErrKind
		}
		if held.Cap.Root == 0 {
			return api.ErrState
		}
		m.unmap(held.At)
	case api.CallBind:
		bell, e := m.wanted(c, x[11], api.Bell, api.Write)
		if e != api.OK {
			return e
		}
		if m.lines[n].bell >= 0 {
			return api.ErrState
		}
		m.lines[n] = row{bell: bell.Cap.Num, badge: bell.Cap.Badge}
	case api.CallAck:
		was := m.lines[n]
		if was.bell < 0 {
			return api.ErrState
		}
		m.lines[n].pending, m.lines[n].masked = false, was.pending
		if was.pending {
			m.ring(was.bell, was.badge)
		}
	case api.CallPut:
		if len(m.put[n]) > 63 {
			return api.ErrRoom
		}
		m.put[n] = string(append([]byte(m.put[n]), byte(x[11]%256)))
	case api.CallTake:
		if len(m.fed[n]) == 0 {
			return api.ErrEmpty
		}
		c.Context.Regs[11] = uint32(m.fed[n][0])
		m.fed[n] = strings.TrimPrefix(m.fed[n], m.fed[n][:1])
	default:
		return m.ofThread(c, call, m.cards[n])
	}
	return api.OK
}

// ofThread: Setup, Regs, Resume, Suspend, Prio.
func (m *model) ofThread(c *card, call uint32, other *card) api.Errno {
	x := c.Context.Regs
	if (call == api.CallRegs || call == api.CallResume) && other.State != api.Idle {
		return api.ErrState
	}
	switch call {
	case api.CallRegs:
		other.Context.Pc, other.Context.Regs[2], other.Context.Regs[10] = x[11], x[12], x[13]
	case api.CallResume:
		m.wake(other)
	case api.CallSuspend:
		m.suspend(other)
	case api.CallPrio:
		if x[11] > 7 {
			return api.ErrArg
		}
		if int(x[11]) > c.Prio {
			return api.ErrRight
		}
		other.Prio = int(x[11])
		if other.State == api.Ready {
			other.came, other.Left = m.now(), api.Slice
		}
	case api.CallSetup:
		var l []api.Entry
		for i, kind := range []int{api.Box, api.Root, api.End} {
			if int32(x[11+i]) == -1 {
				continue
			}
			held, e := m.wanted(c, x[11+i], kind, 0)
			if e != api.OK {
				return e
			}
			to := api.Slot{Box: other.Num, Index: i}
			if _, full := m.heap[to]; full {
				return api.ErrFull
			}
			l = append(l, api.Entry{At: to, Cap: held.Cap, From: held.At})
		}
		for _, y := range l {
			m.heap[y.At] = y
		}
	}
	return api.OK
}

// spread: Copy, Mint, Move.
func (m *model) spread(c *card, call uint32) api.Errno {
	x := c.Context.Regs
	to, e := m.address(c, x[10])
	if e != api.OK {
		return e
	}
	if _, full := m.heap[to]; full {
		return api.ErrFull
	}
	held, e := m.named(c, x[11])
	if e != api.OK {
		return e
	}
	made := api.Entry{At: to, Cap: held.Cap, From: held.At}
	made.Cap.Root, made.Cap.Va, made.Cap.Rights = 0, 0, held.Cap.Rights&int(x[12]&7)
	switch {
	case call == api.CallCopy:
	case call == api.CallMove:
		made.Cap, made.From = held.Cap, held.From
		delete(m.heap, held.At)
		m.comeFrom(held.At, to)
	case made.Cap.Kind == api.Box:
		if x[14] > 32 || len(strings.TrimLeft(fmt.Sprintf("%b", x[13]), "0")) > int(x[14]) {
			return api.ErrArg
		}
		made.Cap.Guard, made.Cap.GuardBits = x[13], int(x[14])
	case made.Cap.Kind != api.End && made.Cap.Kind != api.Bell:
		return api.ErrKind
	case made.Cap.Badge > 0:
		return api.ErrState
	default:
		made.Cap.Badge = x[13]
	}
	m.heap[to] = made
	return api.OK
}

// comeFrom: what came from a slot comes from another.
func (m *model) comeFrom(old, now api.Slot) {
	for at, x := range m.heap {
		if x.From == old {
			x.From = now
			m.heap[at] = x
		}
	}
}

func (m *model) below(at api.Slot) (l []api.Slot) {
	var next []api.Slot
	for s, x := range m.heap {
		if x.From == at {
			next = append(next, s)
		}
	}
	slices.SortFunc(next, func(a, b api.Slot) int {
		return cmp.Or(cmp.Compare(a.Box, b.Box), cmp.Compare(a.Index, b.Index))
	})
	for _, s := range next {
		l = append(l, s)
		l = append(l, m.below(s)...)
	}
	return l
}

func (m *model) retype(c *card, held api.Entry) api.Errno {
	x := c.Context.Regs
	to, e := m.address(c, x[13])
	switch {
	case e != api.OK:
		return e
	case x[11] > 8:
		return api.ErrKind
	case x[11] == api.Box && !slices.Contains([]uint32{1, 2, 4, 8, 16, 32, 64}, x[12]):
		return api.ErrArg
	case x[14] == 0 || uint64(x[14])+uint64(to.Index) > uint64(m.sizes[to.Box]):
		return api.ErrSlot
	}
	for i := range int(x[14]) {
		if _, full := m.heap[api.Slot{Box: to.Box, Index: to.Index + i}]; full {
			return api.ErrFull
		}
	}
	order := int(x[12])
	if x[11] == api.Box {
		order = 0
	}
	nums, e := m.pages(held.Cap.Num, int(x[11]), order, int(x[14]))
	for i, num := range nums {
		o := api.Object{Kind: int(x[11]), Num: num}
		m.come(api.ObjectSpec{Object: o, Size: int(x[12])})
		if o.Kind == api.Thread {
			m.cards[num].Domain = c.Domain
		}
		at := api.Slot{Box: to.Box, Index: to.Index + i}
		m.heap[at] = api.Entry{At: at, Cap: api.Cap{Object: o, Rights: 7}, From: held.At}
		m.seen[fmt.Sprintf("made %d", o.Kind)]++
	}
	return e
}

// lies: whether something lies in an untyped.
func (m *model) lies(num int) bool {
	mine := pagesOf(api.Object{Kind: api.Untyped, Num: num})
	for _, o := range m.objects {
		l := pagesOf(o)
		if slices.Contains(mine, l[0]) && (o.Kind != api.Untyped || len(l) < len(mine)) {
			return true
		}
	}
	return false
}

// pages: numbers of so many objects out of an untyped; they are not there yet.
func (m *model) pages(num, kind, order, count int) (l []int, e api.Errno) {
	pages := pagesOf(api.Object{Kind: api.Untyped, Num: num})
	switch {
	case kind == 0:
		return nil, api.ErrKind
	case order > 8 || kind != api.Untyped && order > 0:
		return nil, api.ErrArg
	}
	mark, each := m.marks[num], 1<<order
	if mark > 0 && !m.lies(num) {
		mark = 0
		m.seen["given once more"]++
	}
	for mark%each > 0 {
		mark++
	}
	if kind == api.Untyped && each >= len(pages) || mark+count*each > len(pages) {
		return nil, api.ErrRoom
	}
	for ; count > 0; count-- {
		l = append(l, pages[mark]+256*order)
		mark += each
	}
	m.marks[num] = mark
	return l, api.OK
}

// unmap writes noughts where the words of a mapping are, by the chapters 4 and 5.
func (m *model) unmap(at api.Slot) {
	x := m.heap[at]
	if x.Cap.Root == 0 {
		return
	}
	root := (x.Cap.Root-1)*api.PageLen + int(x.Cap.Va>>22)*4
	if x.Cap.Kind == api.Table {
		for other, y := range m.heap {
			if y.Cap.Kind == api.Frame && y.Cap.Root == x.Cap.Root && y.Cap.Va>>22 == x.Cap.Va>>22 {
				m.unmap(other)
				m.seen["unmapped with its table"]++
			}
		}
		m.memory.SetWord(root, 0)
	} else {
		table, _ := m.memory.Word(root)
		m.memory.SetWord(int(table>>10)*api.PageLen+int(x.Cap.Va>>12)%1024*4, 0)
	}
	x.Cap.Root, x.Cap.Va = 0, 0
	m.heap[at] = x
}

func (m *model) remove(at api.Slot) {
	x, full := m.heap[at]
	if !full {
		return
	}
	m.unmap(at)
	delete(m.heap, at)
	m.comeFrom(at, x.From)
	for _, y := range m.heap {
		if y.Cap.Object == x.Cap.Object {
			return
		}
	}
	m.destroy(x.Cap.Object)
}

func (m *model) destroy(o api.Object) {
	m.seen[fmt.Sprintf("destroyed %d", o.Kind)]++
	switch o.Kind {
	case api.Irq:
		m.lines[o.Num] = row{bell: api.None}
	case api.Root:
		for at, x := range m.heap {
			if x.Cap.Root == o.Num+1 {
				m.unmap(at)
				m.seen["unmapped with its root"]++
			}
		}
	case api.Thread:
		m.suspend(m.cards[o.Num])
		delete(m.cards, o.Num)
		for _, c := range m.cards {
			if c.Waits == o.Num {
				c.Waits = api.None
				m.seen["waits for one that is gone"]++
			}
		}
	case api.End, api.Bell:
		m.close(o.Num)
	}
	if o.Kind == api.Box || o.Kind == api.Thread {
		for i := range m.sizes[o.Num] {
			m.remove(api.Slot{Box: o.Num, Index: i})
		}
		delete(m.sizes, o.Num)
	}
	switch {
	case o.Kind >= api.Irq:
		return
	case o.Kind > api.Untyped:
		m.memory.Write(o.Num*api.PageLen, strings.Repeat("\x00", api.PageLen))
	case m.lies(o.Num):
		m.seen["an untyped stays"]++
		return
	default:
		delete(m.marks, o.Num)
	}
	m.objects = slices.DeleteFunc(m.objects, func(other api.Object) bool { return other == o })
}

func (m *model) close(place int) {
	for _, c := range m.line(place) {
		m.seen[fmt.Sprint("closed in state ", c.State)]++
		if c.State == api.Faulting {
			m.stop(c, api.Idle, api.None)
			continue
		}
		c.Context.Regs[10] = uint32(api.ErrGone)
		m.wake(c)
	}
	delete(m.words, place)
	for n := range m.lines {
		if m.lines[n].bell == place {
			m.lines[n] = row{bell: api.None}
			m.seen["an interrupt's bell is gone"]++
		}
	}
}

func (m *model) suspend(c *card) {
	m.seen[fmt.Sprint("suspended in state ", c.State)]++
	if other := m.cards[c.Waits]; other != nil {
		other.Caller, c.Waits = api.None, api.None
	}
	if c.State != api.Idle {
		m.stop(c, api.Idle, api.None)
	}
}
