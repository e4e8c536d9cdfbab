package kern_test

import (
	"fmt"
	"math"
	"math/rand"
	"slices"
	"strings"
	"testing"

	"vault/api"
	"vault/asm"
	"vault/kern"
)

// writer writes a thread's code at random: base is the address of its box's first slot; deep that of the box which has all of its capabilities (0: none).
// A warden has threads besides, does not wait, and takes back what others have from it.
// In its box there is at first mostly this: 0 to 2 ends, 3 and 4 bells, 5 an untyped, 6 a thread, 7 an interrupt, 8 a port, 9 a root, 10 a frame, 11 a box; 12 to 15 are empty.
type writer struct {
	r          *rand.Rand
	base, deep int
	gets       bool
	warden     bool
}

// usual: where things of a kind stand at first.
var usual = map[int][]int{api.End: {0, 1, 2}, api.Bell: {3, 4}, api.Untyped: {5, 5, 13}, api.Thread: {6, 6, 12}, api.Irq: {7}, api.Port: {8}, api.Root: {9}, api.Frame: {10, 14}, api.Table: {13, 15}, api.Box: {11, 14}}

func (w writer) of(kind int) int {
	l := usual[kind]
	if len(l) == 0 || w.r.Intn(8) == 0 {
		return w.some()
	}
	return w.base + l[w.r.Intn(len(l))]
}

func (w writer) some() int {
	if w.deep > 0 && w.r.Intn(4) == 0 {
		return w.deep + w.r.Intn(8)
	}
	return w.base + w.r.Intn(16)
}

func (w writer) fresh() int {
	switch {
	case w.r.Intn(12) == 0:
		return w.some()
	case w.deep > 0 && w.r.Intn(4) == 0:
		return w.deep + 5 + w.r.Intn(3)
	}
	return w.base + 12 + w.r.Intn(4)
}

// recent: of what has come meanwhile, mostly.
func (w writer) recent() int {
	if w.r.Intn(3) == 0 {
		return w.some()
	}
	return w.fresh()
}

func (w writer) orNone(address int) int {
	if w.r.Intn(4) == 0 {
		return none
	}
	return address
}

// odd: numbers that may not be, or at the edge of what may be.
var odd = []int{-1, 0, 1, 2, 7, 8, 9, 31, 32, 33, 63, 64, 65, 255, 256, 0x1000, 0x3fffff, 0x400000, math.MinInt32, math.MaxInt32}

// call: the lines of a call; some have one number that is odd.
func (w writer) call(number int, args ...int) string {
	if len(args) > 0 && w.r.Intn(16) == 0 {
		args[w.r.Intn(len(args))] = odd[w.r.Intn(len(odd))]
	}
	t := ""
	for i, n := range args {
		t += fmt.Sprintf("li x%d, %d\n", 10+i, n)
	}
	return t + fmt.Sprintf("li x17, %d\necall\n", number)
}

// pick: one of these.
func (w writer) pick(l ...int) int {
	return l[w.r.Intn(len(l))]
}

func (w writer) va() int {
	return w.pick(0x1000, 0x2000, 0x3000, 0x4000, 0x5000, 0x400000, 0x401000, 0x402000, 0x800000)
}

// retype: a kind (0: any), into slots from one on.
func (w writer) retype(kind, into, count int) string {
	if kind == 0 {
		kind = w.r.Intn(10)
	}
	size := 0
	switch kind {
	case api.Box:
		size = w.pick(1, 2, 2, 4, 4, 8, 3)
	case api.Untyped:
		size = w.pick(0, 0, 1, 1, 2, 3)
	}
	return w.call(api.CallRetype, w.of(api.Untyped), kind, size, into, count)
}

// one: a call of those from 12 on.
func (w writer) one(number int) string {
	r := w.r
	switch number {
	case api.CallRetype:
		return w.retype(0, w.fresh(), w.pick(1, 1, 1, 2, 3))
	case api.CallCopy, api.CallMove:
		return w.call(number, w.fresh(), w.some(), r.Intn(16))
	case api.CallMint:
		return w.call(number, w.fresh(), w.of(w.pick(api.End, api.Bell, api.Box)), 7, r.Intn(8), w.pick(0, 2, 3, 4, 28))
	case api.CallDelete, api.CallRevoke, api.CallUnmap:
		return w.call(number, w.recent())
	case api.CallTable:
		return w.call(number, w.of(api.Table), w.of(api.Root), w.va())
	case api.CallMap:
		return w.call(number, w.of(api.Frame), w.of(api.Root), w.va(), w.pick(1, 3, 3, 5, 7, 9, 2))
	case api.CallSetup:
		return w.call(number, w.of(api.Thread), w.orNone(w.of(api.Box)), w.orNone(w.of(api.Root)), w.orNone(w.of(api.End)))
	case api.CallRegs:
		return w.call(number, w.of(api.Thread), 0x1000, 4, 5)
	case api.CallPrio:
		return w.call(number, w.of(api.Thread), r.Intn(4))
	case api.CallBind:
		return w.call(number, w.of(api.Irq), w.of(api.Bell))
	case api.CallAck:
		return w.call(number, w.of(api.Irq))
	case api.CallPut, api.CallTake:
		return w.call(number, w.of(api.Port), r.Intn(128))
	}
	return w.call(number, w.of(api.Thread))
}

// play: some calls that belong together.
func (w writer) play() string {
	if w.warden && w.r.Intn(3) > 0 {
		return w.watch()
	}
	at := w.fresh()
	switch w.r.Intn(8) {
	case 0, 6: // a thread comes, and runs by the same code
		space, t := w.base+11, ""
		if w.deep > 0 {
			space, t = w.deep+7, w.call(api.CallMint, w.deep+7, w.deep+4, 7, 0, 24)
		}
		return t + w.retype(api.Thread, at, 1) + w.call(api.CallSetup, at, space, w.base+9, w.orNone(w.of(api.End))) + w.call(api.CallRegs, at, 0x1000, 1, 2) + w.call(api.CallResume, at)
	case 1: // a table and a frame come, and are mapped
		other := w.fresh()
		return w.retype(api.Table, at, 1) + w.call(api.CallTable, at, w.base+9, 0x400000) + w.retype(api.Frame, other, 1) + w.call(api.CallMap, other, w.base+9, 0x401000, 3)
	case 2: // the same, by a root that comes
		return w.retype(api.Root, w.base+12, 1) + w.retype(api.Table, w.base+13, 1) + w.retype(api.Frame, w.base+14, 1) + w.call(api.CallTable, w.base+13, w.base+12, 0x400000) + w.call(api.CallMap, w.base+14, w.base+12, 0x401000, 3) + w.call(w.pick(api.CallDelete, api.CallUnmap, api.CallRevoke), w.base+w.pick(12, 13, 14, 5))
	case 3: // an end or bell comes, and goes while somebody waits there
		kind := w.pick(api.End, api.Bell)
		return w.retype(kind, at, 1) + w.call(w.pick(api.CallGet, api.CallHear, api.CallSend, api.CallCall), at) + w.call(api.CallDelete, at)
	case 4: // a box comes, and capabilities into it
		if w.deep == 0 {
			return w.call(api.CallRevoke, w.of(api.Untyped))
		}
		size := w.pick(1, 2, 2, 4)
		t := w.call(api.CallRetype, w.of(api.Untyped), api.Box, 1<<size, w.deep+5, 1) + w.call(api.CallMint, w.deep+6, w.deep+5, 7, 0, 5-size)
		for i := range 3 {
			t += w.call(w.pick(api.CallCopy, api.CallMove), 6<<5+i, w.some(), 7)
		}
		if w.r.Intn(2) == 0 {
			t += w.call(api.CallMove, 6<<5+3, w.deep+6)
		}
		return t + w.call(api.CallDelete, w.deep+5) + w.call(api.CallDelete, w.deep+6)
	case 5: // an untyped comes, and something out of it
		return w.call(api.CallRetype, w.base+5, api.Untyped, w.pick(0, 1, 1, 2), w.base+13, 1) + w.call(api.CallRetype, w.base+13, w.pick(api.Frame, api.End, api.Bell, api.Untyped), 0, w.base+14, 1) + w.call(w.pick(api.CallDelete, api.CallRevoke), w.base+w.pick(5, 13, 14))
	}
	return w.call(api.CallCopy, at, w.some(), 7) + w.call(w.pick(api.CallRevoke, api.CallDelete), w.some())
}

// watch: others are stopped, go on, or lose what they have.
func (w writer) watch() string {
	thread := w.base + w.pick(6, 12, 13)
	switch w.r.Intn(9) {
	case 0, 8:
		what := w.base + w.pick(0, 1, 2, 3, 4)
		return w.call(api.CallRevoke, what) + w.call(api.CallDelete, what)
	case 1:
		return w.call(api.CallRevoke, thread) + w.call(api.CallDelete, thread)
	case 2:
		return w.call(api.CallSuspend, thread)
	case 3:
		return w.call(api.CallPrio, thread, w.r.Intn(4))
	case 4:
		return w.call(api.CallResume, thread)
	}
	return w.call(api.CallSuspend, thread) + w.call(api.CallResume, thread)
}

// message: a call of those up to 11, with what may be given.
func (w writer) message() string {
	suit := []int{api.CallSend, api.CallCall, api.CallCall, api.CallTry, api.CallRing, api.CallHear}
	if w.gets {
		suit = []int{api.CallGet, api.CallServe, api.CallServe, api.CallPoll, api.CallReply, api.CallListen, api.CallRing}
	}
	if w.warden {
		suit = []int{api.CallTry, api.CallPoll, api.CallReply, api.CallRing, api.CallListen, api.CallYield}
	}
	number := w.pick(suit...)
	kind := api.End
	if number >= api.CallRing {
		kind = api.Bell
	}
	t := fmt.Sprintf("li x16, %d\nli x18, %d\n", w.orNone(w.some()), w.orNone(w.fresh()))
	return t + w.call(number, w.of(kind), max(0, w.r.Intn(4)-2))
}

func (w writer) code() string {
	l := []string{"a:"}
	for range 6 + w.r.Intn(12) {
		if w.warden && w.r.Intn(4) == 0 {
			l = append(l, w.watch())
		}
		switch w.r.Intn(20) {
		case 0:
			if !w.warden && w.r.Intn(3) == 0 {
				l = append(l, []string{".word 0", "ebreak", "lw x5, 2(x0)", "sw x5, 0(x0)"}[w.r.Intn(4)])
			}
		case 1:
			l = append(l, fmt.Sprintf("sw x%d, %d(x9)", 10+w.r.Intn(9), 4*w.r.Intn(4)))
		case 2, 3, 4, 5:
			l = append(l, w.play())
		case 6, 7, 8, 9, 10:
			l = append(l, w.message())
		default:
			l = append(l, w.one(api.CallRetype+w.r.Intn(18)))
		}
	}
	text := strings.Join(append(l, "jal x0, a"), "\n")
	b, e, line := asm.Assemble(text)
	if e != api.OK || len(b) > api.PageLen {
		panic(fmt.Sprint(text, e, line))
	}
	return b
}

// richSpec: some threads, each with its pages and capabilities of what is there, its own and others'.
func richSpec(r *rand.Rand) api.Spec {
	s := api.Spec{Pages: randomPages, Calls: 1<<30 - 2}
	if r.Intn(6) == 0 {
		s.Calls &^= 1 << r.Intn(30)
	}
	for range 1 + r.Intn(3) {
		s.Turns = append(s.Turns, api.Turn{Domain: r.Intn(2), Ticks: 1 + r.Intn(9)})
	}
	s.Turns[0].Domain = 0
	for num, kind := range []int{api.End, api.End, api.Bell, api.Bell} {
		s.Objects = append(s.Objects, api.ObjectSpec{Object: api.Object{Kind: kind, Num: 40 + num}})
	}
	for _, num := range untypeds {
		s.Objects = append(s.Objects, api.ObjectSpec{Object: api.Object{Kind: api.Untyped, Num: num}})
	}
	threads := 2 + r.Intn(4)
	for k := range threads {
		addThread(r, &s, k, threads)
	}
	for n := range 8 {
		if r.Intn(3) == 0 {
			s.Irqs = append(s.Irqs, api.IrqSpec{Line: n, Bell: 42 + r.Intn(2), Badge: uint32(r.Intn(8))})
		}
	}
	link(r, s.Caps)
	owe(r, s.Caps)
	return s
}

// owe: most ends, bells and threads that come from nowhere come from the first capability of them: mostly the warden's.
func owe(r *rand.Rand, l []api.CapSpec) {
	for i := range l {
		first := slices.IndexFunc(l, func(x api.CapSpec) bool { return x.Cap.Object == l[i].Cap.Object })
		x := l[first]
		if first < i && l[i].From == noSlot && slices.Contains([]int{api.End, api.Bell, api.Thread}, x.Cap.Kind) && x.Cap.Rights == 7 && x.Cap.Badge == 0 && r.Intn(16) > 0 {
			l[i].From = x.At
		}
	}
}

var untypeds = []int{48 + 256*3, 56 + 256*2, 60}

func addThread(r *rand.Rand, s *api.Spec, k, threads int) {
	n := 8 * k
	w := writer{r: r, gets: k%2 == 0, warden: k == 0}
	for i, kind := range []int{api.Root, api.Table, api.Frame, api.Frame, api.Box, api.Thread, api.Box} {
		s.Objects = append(s.Objects, api.ObjectSpec{Object: api.Object{Kind: kind, Num: n + i}, Size: 16 - 8*(i/6)})
	}
	put := func(box, index, kind, num, rights int) *api.Cap {
		s.Caps = append(s.Caps, api.CapSpec{At: api.Slot{Box: box, Index: index}, Cap: api.Cap{Object: api.Object{Kind: kind, Num: num}, Rights: rights}, From: noSlot})
		return &s.Caps[len(s.Caps)-1].Cap
	}
	if w.warden {
		for i, num := range []int{40, 41, 40, 42, 43} {
			put(4, i, api.End+num/42, num, 7)
		}
		for i, index := range []int{6, 12, 13} {
			put(4, index, api.Thread, 8*(1+i%(threads-1))+5, 7)
		}
	}
	for i := range 12 {
		if !w.warden || i > 4 && i != 6 {
			fill(r, put, n, i, threads)
		}
	}
	put(n+6, 0, api.Table, n+1, 3)
	put(n+6, 1, api.Frame, n+2, 7)
	put(n+6, 2, api.Frame, n+3, 3)
	if r.Intn(3) > 0 {
		put(n+6, 3, api.Box, n+4, 3).GuardBits = 1
		put(n+6, 4, api.Box, n+6, 3).GuardBits = 2
		put(n+5, 0, api.Box, n+6, 0).GuardBits = 24
		w.base, w.deep = 3<<5, 4<<5
	} else {
		put(n+5, 0, api.Box, n+4, 0).GuardBits = 28
	}
	put(n+5, 1, api.Root, n, 0)
	if r.Intn(3) > 0 {
		put(n+5, 2, api.End, 40+r.Intn(2), 2|r.Intn(8)).Badge = uint32(r.Intn(3))
	}
	box := func(index int) api.Slot { return api.Slot{Box: n + 6, Index: index} }
	s.Maps = append(s.Maps, api.MapSpec{At: box(0), Root: n}, api.MapSpec{At: box(1), Root: n, Va: 0x1000, Rights: 5}, api.MapSpec{At: box(2), Root: n, Va: 0x2000, Rights: 3})
	s.Bytes = append(s.Bytes, api.BytesSpec{At: (n + 2) * api.PageLen, Data: w.code()})
	t := api.ThreadSpec{Num: n + 5, Domain: r.Intn(8) / 7, Prio: w.pick(1, 1, 1, 1, 0, 2), Ready: w.warden || r.Intn(8) > 0, Context: api.Context{Pc: 0x1000}}
	t.Context.Regs[9] = 0x2000
	s.Threads = append(s.Threads, t)
}

// fill: a slot of a thread's box has what is usual there, or something else, or nothing.
func fill(r *rand.Rand, put func(box, index, kind, num, rights int) *api.Cap, n, index, threads int) {
	rights := 7
	if r.Intn(3) == 0 {
		rights = r.Intn(8)
	}
	kind := 0
	for of, l := range usual {
		if slices.Contains(l, index) {
			kind = of
		}
	}
	if r.Intn(10) == 0 {
		kind = 1 + index%10
	}
	near := n // whose pages it names
	if r.Intn(4) == 0 {
		near = 8 * r.Intn(threads)
	}
	switch kind {
	case api.End:
		put(n+4, index, kind, 40+r.Intn(5)/4, rights).Badge = uint32(r.Intn(3))
	case api.Bell:
		put(n+4, index, kind, 42+r.Intn(2), rights).Badge = uint32(r.Intn(3))
	case api.Untyped:
		put(n+4, index, kind, untypeds[r.Intn(3)], rights)
	case api.Thread:
		put(n+4, index, kind, near+5, rights)
	case api.Irq, api.Port:
		put(n+4, index, kind, r.Intn(8), rights)
	case api.Root:
		put(n+4, index, kind, near, rights)
	case api.Frame:
		put(n+4, index, kind, near+3, rights&3)
	case api.Box:
		put(n+4, index, kind, near+4, rights).GuardBits = 28
	}
}

// TestAllCallsAtRandom: tick by tick all that is told is as the chapter, told once more, says.
func TestAllCallsAtRandom(t *testing.T) {
	r := rand.New(rand.NewSource(14))
	seen := map[string]int{}
	for n := range 400 {
		s := richSpec(r)
		k, e, at := kern.New(s)
		m, wantE, wantAt := begin(s)
		if e != wantE || at != wantAt || e != api.OK {
			t.Fatalf("system %d: New: %d, %d, wanted %d, %d", n, e, at, wantE, wantAt)
		}
		for step := 0; step < 1000 && m.idle < 20; step++ {
			wrong := goOn(r, k, m)
			if wrong == "" && step%250 == 249 {
				wrong = compareBytes(k, m)
			}
			if wrong == "" && step%25 == 24 {
				wrong = sound(k, randomPages)
			}
			if wrong != "" {
				t.Fatalf("system %d, step %d: %s", n, step, wrong)
			}
		}
		for what, often := range m.seen {
			seen[what] += often
		}
	}
	want := []string{"given", "an untyped stays", "given once more", "an interrupt's bell is gone", "unmapped with its root", "unmapped with its table"}
	for _, state := range []int{api.Sending, api.Calling, api.Getting, api.Hearing, api.Faulting} {
		want = append(want, fmt.Sprint("closed in state ", state))
	}
	for state := api.Idle; state <= api.Faulted; state++ {
		want = append(want, fmt.Sprint("suspended in state ", state))
	}
	for kind := api.Untyped; kind <= api.Port; kind++ {
		want = append(want, fmt.Sprint("destroyed ", kind))
		if kind <= api.Bell {
			want = append(want, fmt.Sprint("made ", kind))
		}
	}
	for call := 1; call <= api.LastCall; call++ {
		want = append(want, fmt.Sprintf("call %d is 0", call))
	}
	for _, what := range want {
		if seen[what] == 0 {
			t.Errorf("it did not happen: %s", what)
		}
	}
}
