package kern_test

import (
	"cmp"
	"fmt"
	"maps"
	"math/bits"
	"slices"
	"strconv"
	"strings"

	"vault/api"
	"vault/hart"
	"vault/mem"
	"vault/vspace"
)

// model tells the chapter once more: there are no queues and no lines, but cards of threads, with the times at which they came to where they are; capabilities lie on one heap; the turn is worked out from how many ticks there were.
type model struct {
	memory  *mem.Memory
	turns   []api.Turn
	calls   uint32
	ticks   int
	idle    int // ticks since somebody ran
	clock   int
	objects []api.Object
	marks   map[int]int // of untypeds
	sizes   map[int]int
	heap    map[api.Slot]api.Entry
	cards   map[int]*card
	words   map[int]uint32 // of bells
	lines   [8]row
	fed     [8]string
	put     [8]string
	seen    map[string]int // what has happened
}

// card: how a thread stands, and when it came there; what it sends.
type card struct {
	api.ThreadLook
	came  int
	grant bool
	msg   api.Message
}

// row: an interrupt.
type row struct {
	bell            int
	badge           uint32
	masked, pending bool
}

func (m *model) now() int {
	m.clock++
	return m.clock
}

func (m *model) wake(c *card) {
	c.At = api.None
	if c.State != api.Ready {
		c.State, c.Left, c.came = api.Ready, api.Slice, m.now()
	}
}

func (m *model) stop(c *card, state, at int) {
	c.State, c.At, c.Left, c.came = state, at, 0, m.now()
}

// row tells of all cards that are so, in the order in which they came.
func (m *model) row(so func(c *card) bool) (l []*card) {
	for _, c := range m.cards {
		if so(c) {
			l = append(l, c)
		}
	}
	slices.SortFunc(l, func(a, b *card) int { return cmp.Compare(a.came, b.came) })
	return l
}

func (m *model) queue(domain, prio int) []*card {
	return m.row(func(c *card) bool { return c.State == api.Ready && c.Domain == domain && c.Prio == prio })
}

func (m *model) line(place int) []*card {
	return m.row(func(c *card) bool { return c.At == place })
}

func numbers(l []*card) (nums []int) {
	for _, c := range l {
		nums = append(nums, c.Num)
	}
	return nums
}

// first: who is first in a line, if it stands there in one of these ways.
func (m *model) first(place int, states ...int) *card {
	l := m.line(place)
	if len(l) == 0 || !slices.Contains(states, l[0].State) {
		return nil
	}
	return l[0]
}

// turn: which turn a tick is in (the first one is tick 1), and how many of its ticks are left behind that one.
func (m *model) turn(tick int) (int, int) {
	round := 0
	for _, x := range m.turns {
		round += x.Ticks
	}
	tick = (tick - 1) % round
	for i, x := range m.turns {
		if tick < x.Ticks {
			return i, x.Ticks - tick - 1
		}
		tick -= x.Ticks
	}
	panic("no turn")
}

// place: the same of now.
func (m *model) place() (int, int) {
	if m.ticks == 0 {
		return 0, m.turns[0].Ticks
	}
	return m.turn(m.ticks)
}

func (m *model) next() *card {
	m.ticks++
	turn, _ := m.turn(m.ticks)
	for prio := 7; prio >= 0; prio-- {
		l := m.queue(m.turns[turn].Domain, prio)
		if len(l) == 0 {
			continue
		}
		if l[0].Left == 0 {
			l[0].Left, l[0].came = api.Slice, m.now()
			l = m.queue(m.turns[turn].Domain, prio)
		}
		l[0].Left--
		return l[0]
	}
	return nil
}

// lead: where bits, written as a text, lead from a capability.
func (m *model) lead(c api.Cap, address string) (api.Slot, api.Errno) {
	if c.Kind != api.Box {
		return noSlot, api.ErrKind
	}
	guard := strings.Repeat("0", c.GuardBits)
	if c.Guard != 0 {
		guard = fmt.Sprintf("%0*b", c.GuardBits, c.Guard)
	}
	radix := bits.TrailingZeros(uint(m.sizes[c.Num]))
	rest, ok := strings.CutPrefix(address, guard)
	if !ok || radix+len(guard) == 0 || len(rest) < radix {
		return noSlot, api.ErrSlot
	}
	index, _ := strconv.ParseInt("0"+rest[:radix], 2, 64)
	at := api.Slot{Box: c.Num, Index: int(index)}
	if len(rest) == radix {
		return at, api.OK
	}
	x, ok := m.heap[at]
	if !ok {
		return noSlot, api.ErrEmpty
	}
	return m.lead(x.Cap, rest[radix:])
}

func (m *model) address(c *card, address uint32) (api.Slot, api.Errno) {
	space, ok := m.heap[api.Slot{Box: c.Num, Index: 0}]
	if !ok {
		return noSlot, api.ErrEmpty
	}
	return m.lead(space.Cap, fmt.Sprintf("%032b", address))
}

func (m *model) named(c *card, address uint32) (api.Entry, api.Errno) {
	at, e := m.address(c, address)
	if e != api.OK {
		return api.Entry{}, e
	}
	x, ok := m.heap[at]
	if !ok {
		return api.Entry{}, api.ErrEmpty
	}
	return x, api.OK
}

// wants: the kind and the right that a call wants of what register 10 names; ok false: it wants nothing.
func wants(call uint32) (kind, right int, ok bool) {
	switch call {
	case api.CallSend, api.CallTry, api.CallCall:
		return api.End, api.Write, true
	case api.CallGet, api.CallPoll, api.CallServe:
		return api.End, api.Read, true
	case api.CallRing:
		return api.Bell, api.Write, true
	case api.CallHear, api.CallListen:
		return api.Bell, api.Read, true
	}
	return 0, 0, false
}

func (m *model) call(c *card) (int, api.Errno) {
	x := &c.Context.Regs
	call := x[17]
	if call < 1 || call > api.LastCall || m.calls&(1<<call) == 0 {
		x[10] = uint32(api.ErrCall)
		return 0, api.ErrCall
	}
	if call > api.CallListen {
		e := m.more(c, call)
		x[10] = uint32(e) // nobody waits, who makes one of these
		return int(call), e
	}
	e := m.do(c, call)
	if e != api.OK || c.State == api.Ready {
		x[10] = uint32(e)
	}
	return int(call), e
}

func (m *model) do(c *card, call uint32) api.Errno {
	x := &c.Context.Regs
	if call == api.CallServe {
		m.reply(c)
	}
	var held api.Cap
	if kind, right, ok := wants(call); ok {
		entry, e := m.named(c, x[10])
		held = entry.Cap
		switch {
		case e != api.OK:
			return e
		case held.Kind != kind:
			return api.ErrKind
		case held.Rights&right == 0:
			return api.ErrRight
		}
	}
	switch call {
	case api.CallReply:
		return m.reply(c)
	case api.CallYield:
		c.came, c.Left = m.now(), api.Slice
	case api.CallRing:
		m.ring(held.Num, held.Badge)
	case api.CallHear, api.CallListen:
		return m.hear(c, held.Num, call == api.CallHear)
	case api.CallGet, api.CallPoll, api.CallServe:
		return m.get(c, held.Num, call != api.CallPoll)
	default:
		c.grant = held.Rights&api.Grant != 0
		c.msg = api.Message{Label: x[11], Words: [4]uint32{x[12], x[13], x[14], x[15]}, Badge: held.Badge}
		return m.send(c, held.Num, []int{api.Sending, api.Ready, api.Calling}[call-api.CallSend])
	}
	return api.OK
}

func (m *model) send(c *card, end, how int) api.Errno {
	if getter := m.first(end, api.Getting); getter != nil {
		m.meet(c, getter, how)
		return api.OK
	}
	if how == api.Ready {
		return api.ErrWait
	}
	m.stop(c, how, end)
	return api.OK
}

func (m *model) get(c *card, end int, waits bool) api.Errno {
	if sender := m.first(end, api.Sending, api.Calling, api.Faulting); sender != nil {
		m.meet(sender, c, sender.State)
		return api.OK
	}
	if !waits {
		return api.ErrWait
	}
	m.stop(c, api.Getting, end)
	return api.OK
}

func (m *model) hear(c *card, bell int, waits bool) api.Errno {
	if w := m.words[bell]; w != 0 {
		m.words[bell] = 0
		m.answer(c, api.Message{Badge: w})
		return api.OK
	}
	if !waits {
		return api.ErrWait
	}
	m.stop(c, api.Hearing, bell)
	return api.OK
}

func (m *model) ring(bell int, badge uint32) {
	if c := m.first(bell, api.Hearing); c != nil {
		m.answer(c, api.Message{Badge: badge})
		m.seen["a bell is heard"]++
		return
	}
	m.words[bell] |= badge
}

func (m *model) answer(c *card, msg api.Message) {
	for i, w := range []uint32{0, msg.Label, msg.Words[0], msg.Words[1], msg.Words[2], msg.Words[3], msg.Badge, 0} {
		c.Context.Regs[10+i] = w
	}
	m.wake(c)
}

// meet: how is the way in which the sender sends.
func (m *model) meet(sender, getter *card, how int) {
	m.seen[fmt.Sprint("met as ", how)]++
	m.answer(getter, sender.msg)
	if sender.grant && how != api.Faulting && m.give(sender, getter) {
		getter.Context.Regs[17] = 1
		m.seen["given"]++
	}
	if how == api.Sending || how == api.Ready {
		if sender.State != api.Ready {
			sender.Context.Regs[10] = 0
			m.wake(sender)
		}
		return
	}
	for _, c := range m.cards {
		if c.Waits == getter.Num {
			c.Waits = api.None
			m.seen["forgotten"]++
		}
	}
	getter.Caller, sender.Waits = sender.Num, getter.Num
	state := api.Asking
	if how == api.Faulting {
		state = api.Faulted
	}
	m.stop(sender, state, api.None)
}

func (m *model) give(sender, getter *card) bool {
	what, into := sender.Context.Regs[16], getter.Context.Regs[18]
	if int32(what) == -1 || int32(into) == -1 {
		return false
	}
	x, e := m.named(sender, what)
	at, f := m.address(getter, into)
	if _, full := m.heap[at]; e != api.OK || f != api.OK || full {
		return false
	}
	x.Cap.Root, x.Cap.Va = 0, 0
	m.heap[at] = api.Entry{At: at, Cap: x.Cap, From: x.At}
	return true
}

func (m *model) reply(c *card) api.Errno {
	caller := m.cards[c.Caller]
	if caller == nil {
		return api.ErrState
	}
	c.Caller, caller.Waits = api.None, api.None
	x := c.Context.Regs
	switch {
	case caller.State == api.Asking:
		m.answer(caller, api.Message{Label: x[11], Words: [4]uint32{x[12], x[13], x[14], x[15]}})
	case x[11] == 0:
		m.seen["goes on behind a fault"]++
		m.wake(caller)
	default:
		m.seen["stops behind a fault"]++
		m.stop(caller, api.Idle, api.None)
	}
	return api.OK
}

func (m *model) tick() api.Did {
	c := m.next()
	if c == nil {
		m.idle++
		return api.Did{Thread: api.None}
	}
	m.idle = 0
	did := api.Did{Thread: c.Num, Event: api.Event{Trap: true, Cause: api.FetchAccess, Tval: c.Context.Pc}}
	if x := m.heap[api.Slot{Box: c.Num, Index: 1}]; x.Cap.Kind == api.Root {
		did.Event = hart.Step(m.memory, x.Cap.Num, &c.Context)
	}
	if did.Event.Trap && did.Event.Cause == api.Ecall {
		c.Context.Pc += 4
		did.Call, did.Err = m.call(c)
		m.seen[fmt.Sprintf("call %d is %d", did.Call, did.Err)]++
	} else if did.Event.Trap {
		x := m.heap[api.Slot{Box: c.Num, Index: 2}].Cap
		if x.Kind != api.End || x.Rights&api.Write == 0 {
			m.seen["nobody is told"]++
			m.stop(c, api.Idle, api.None)
			return did
		}
		c.msg = api.Message{Label: uint32(did.Event.Cause), Words: [4]uint32{did.Event.Tval, c.Context.Pc}, Badge: x.Badge}
		m.send(c, x.Num, api.Faulting)
	}
	return did
}

func (m *model) raise(n int) api.Errno {
	if n < 0 || n > 7 {
		return api.ErrArg
	}
	x := &m.lines[n]
	if x.bell == api.None {
		return api.OK
	}
	if x.pending = x.masked; !x.masked {
		x.masked = true
		m.ring(x.bell, x.badge)
	}
	return api.OK
}

func (m *model) feed(n int, s string) (int, api.Errno) {
	if n < 0 || n > 7 {
		return 0, api.ErrArg
	}
	was := len(m.fed[n])
	m.fed[n] = (m.fed[n] + s)[:min(was+len(s), 64)]
	return len(m.fed[n]) - was, api.OK
}

func (m *model) drain(n int) (string, api.Errno) {
	if n < 0 || n > 7 {
		return "", api.ErrArg
	}
	s := m.put[n]
	m.put[n] = ""
	return s, api.OK
}

func (m *model) threads() (l []api.ThreadLook) {
	for _, num := range slices.Sorted(maps.Keys(m.cards)) {
		l = append(l, m.cards[num].ThreadLook)
	}
	return l
}

// holds: a list has all of the heap, in order.
func (m *model) holds(l []api.Entry) bool {
	for i, x := range l {
		if m.heap[x.At] != x || i > 0 && (l[i-1].At.Box > x.At.Box || l[i-1].At.Box == x.At.Box && l[i-1].At.Index >= x.At.Index) {
			return false
		}
	}
	return len(l) == len(m.heap)
}

// begin tells what begins once more: a model, or an error and where.
func begin(s api.Spec) (*model, api.Errno, int) {
	m := &model{turns: s.Turns, calls: s.Calls, marks: map[int]int{}, sizes: map[int]int{}, heap: map[api.Slot]api.Entry{}, cards: map[int]*card{}, words: map[int]uint32{}, seen: map[string]int{}}
	if s.Pages < 1 || s.Pages > 256 || len(s.Turns) < 1 || len(s.Turns) > 16 {
		return nil, api.ErrArg, 0
	}
	for _, x := range s.Turns {
		if x.Domain < 0 || x.Domain > 7 || x.Ticks < 1 || x.Ticks > 1000 {
			return nil, api.ErrArg, 0
		}
	}
	m.memory, _ = mem.New(s.Pages)
	for n := range m.lines {
		m.lines[n].bell = api.None
	}
	for i, x := range s.Objects {
		if e := m.object(x); e != api.OK {
			return nil, e, i
		}
	}
	for i, x := range s.Bytes {
		if e := m.bytes(x); e != api.OK {
			return nil, e, i
		}
	}
	for i, x := range s.Caps {
		if e := m.cap(x); e != api.OK {
			return nil, e, i
		}
	}
	for i, x := range s.Maps {
		if e := m.mapping(x); e != api.OK {
			return nil, e, i
		}
	}
	told := map[int]int{}
	for i, x := range s.Threads {
		told[x.Num]++
		if e := m.thread(x, told[x.Num] > 1); e != api.OK {
			return nil, e, i
		}
	}
	for i, x := range s.Irqs {
		switch {
		case x.Line < 0 || x.Line > 7:
			return nil, api.ErrArg, i
		case !slices.Contains(m.objects, api.Object{Kind: api.Bell, Num: x.Bell}):
			return nil, api.ErrName, i
		case m.lines[x.Line].bell != api.None:
			return nil, api.ErrTwice, i
		}
		m.lines[x.Line] = row{bell: x.Bell, badge: x.Badge}
	}
	return m, api.OK, 0
}

// pagesOf: the pages of an object.
func pagesOf(o api.Object) (l []int) {
	first, n := o.Num, 1
	if o.Kind == api.Untyped {
		first, n = o.Num%256, 1<<(o.Num/256)
	}
	for i := range n {
		l = append(l, first+i)
	}
	return l
}

func (m *model) object(x api.ObjectSpec) api.Errno {
	switch {
	case x.Kind == api.Box && !slices.Contains([]int{1, 2, 4, 8, 16, 32, 64}, x.Size):
		return api.ErrArg
	case x.Kind < api.Untyped || x.Kind > api.Bell:
		return api.ErrKind
	case x.Num < 0 || x.Num >= 9*256:
		return api.ErrArg
	}
	mine := pagesOf(x.Object)
	if mine[0]%len(mine) != 0 || mine[len(mine)-1] >= m.memory.Pages() {
		return api.ErrArg
	}
	for _, o := range m.objects {
		for _, p := range pagesOf(o) {
			if slices.Contains(mine, p) {
				return api.ErrTwice
			}
		}
	}
	m.come(x)
	return api.OK
}

func (m *model) come(x api.ObjectSpec) {
	m.objects = append(m.objects, x.Object)
	switch x.Kind {
	case api.Untyped:
		m.marks[x.Num] = 0
	case api.Box:
		m.sizes[x.Num] = x.Size
	case api.Thread:
		m.sizes[x.Num] = 4
		m.cards[x.Num] = &card{ThreadLook: api.ThreadLook{Num: x.Num, At: api.None, Caller: api.None, Waits: api.None}}
	}
}

func (m *model) bytes(x api.BytesSpec) api.Errno {
	for _, o := range m.objects {
		if off := x.At - o.Num*api.PageLen; o.Kind == api.Frame && off >= 0 && off < api.PageLen && off+len(x.Data) <= api.PageLen {
			return m.memory.Write(x.At, x.Data)
		}
	}
	return api.ErrName
}

func (m *model) cap(x api.CapSpec) api.Errno {
	c := x.Cap
	switch c.Kind {
	case api.Irq, api.Port:
		if c.Num < 0 || c.Num > 7 {
			return api.ErrName
		}
	default:
		if !slices.Contains(m.objects, c.Object) {
			return api.ErrName
		}
	}
	plain := api.Cap{Object: c.Object, Rights: c.Rights & 7}
	if c.Kind == api.End || c.Kind == api.Bell {
		plain.Badge = c.Badge
	}
	if c.Kind == api.Box && c.GuardBits >= 0 && c.GuardBits <= 32 && bits.Len32(c.Guard) <= c.GuardBits {
		plain.Guard, plain.GuardBits = c.Guard, c.GuardBits
	}
	if c != plain {
		return api.ErrForm
	}
	from, full := m.heap[x.From]
	if full && (from.Cap.Object != c.Object || from.Cap.Rights|c.Rights != from.Cap.Rights || from.Cap.Badge != 0 && from.Cap.Badge != c.Badge) {
		return api.ErrForm
	}
	if x.At.Index < 0 || x.At.Index >= m.sizes[x.At.Box] {
		return api.ErrSlot
	}
	if _, ok := m.heap[x.At]; ok {
		return api.ErrFull
	}
	switch {
	case x.From.Box == api.None:
		x.From = noSlot
	case x.From.Index < 0 || x.From.Index >= m.sizes[x.From.Box]:
		return api.ErrSlot
	case !full:
		return api.ErrEmpty
	}
	m.heap[x.At] = api.Entry(x)
	return api.OK
}

func (m *model) mapping(x api.MapSpec) api.Errno {
	entry, ok := m.heap[x.At]
	switch {
	case x.At.Index < 0 || x.At.Index >= m.sizes[x.At.Box]:
		return api.ErrSlot
	case !ok:
		return api.ErrEmpty
	case entry.Cap.Kind != api.Frame && entry.Cap.Kind != api.Table:
		return api.ErrKind
	case !slices.Contains(m.objects, api.Object{Kind: api.Root, Num: x.Root}):
		return api.ErrName
	}
	return m.mapAt(entry, x)
}

func (m *model) mapAt(entry api.Entry, x api.MapSpec) api.Errno {
	if entry.Cap.Root != 0 {
		return api.ErrState
	}
	var e api.Errno
	if entry.Cap.Kind == api.Table {
		for _, other := range m.heap {
			if other.Cap.Object == entry.Cap.Object && other.Cap.Root != 0 {
				return api.ErrState
			}
		}
		x.Va = x.Va >> 22 << 22
		e = vspace.Table(m.memory, x.Root, x.Va, entry.Cap.Num)
	} else {
		if x.Rights|entry.Cap.Rights != entry.Cap.Rights {
			return api.ErrRight
		}
		e = vspace.Map(m.memory, x.Root, x.Va, entry.Cap.Num, x.Rights)
	}
	if e == api.OK {
		entry.Cap.Root, entry.Cap.Va = x.Root+1, x.Va
		m.heap[x.At] = entry
	}
	return e
}

func (m *model) thread(x api.ThreadSpec, twice bool) api.Errno {
	c := m.cards[x.Num]
	switch {
	case c == nil:
		return api.ErrName
	case x.Domain < 0 || x.Domain > 7 || x.Prio < 0 || x.Prio > 7:
		return api.ErrArg
	case twice:
		return api.ErrTwice
	}
	c.Domain, c.Prio, c.Context = x.Domain, x.Prio, x.Context
	c.Context.Regs[0] = 0
	if x.Ready {
		m.wake(c)
	}
	return api.OK
}
