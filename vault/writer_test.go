package vault_test

import (
	"fmt"
	"math"
	"math/rand"
	"strings"

	"vault/api"
)

// writer writes a thread's code at random; its addresses are those that a part's threads have.
type writer struct {
	r     *rand.Rand
	role  int  // which thread of its part it is
	looks bool // it may look at frames of another part
}

// The roles.
const (
	getter = iota
	sender
	warden
)

// plays: how the threads of a part get their code, so that much of what they call is done.
func plays(r *rand.Rand, looks bool) func(role int) string {
	return func(role int) string {
		return writer{r: r, role: role, looks: looks}.code()
	}
}

// givesAndTakes: how they get code that puts capabilities wherever it may, other threads' boxes among that, and takes them back.
func givesAndTakes(r *rand.Rand) func(role int) string {
	return func(role int) string {
		w := writer{r: r, role: role}
		t := "a:\n" + w.call(api.CallCopy, 34, 14, 7) // from now on 64 to 95 are the slots of another thread's box
		for range 12 {
			into := w.pick(16, 64+16) + r.Intn(16)
			switch r.Intn(10) {
			case 8:
				t += w.space()
			case 9:
				t += w.call(w.pick(api.CallGet, api.CallHear, api.CallSend, api.CallCall), into)
			case 0, 1:
				t += w.call(api.CallCopy, into, w.pick(0, 1, 2, 3, 4, 5, into-1), 7)
			case 2:
				t += w.call(api.CallMint, into, w.pick(0, 1, 2, into-1), 7, r.Intn(3), 0)
			case 3, 4, 5:
				t += w.retype(w.pick(api.Untyped, api.Frame, api.Box, api.Thread, api.End, api.Bell), into, w.pick(1, 2, 3))
			case 6:
				t += w.call(api.CallDelete, w.pick(16, 64+16)+r.Intn(16))
			default:
				t += w.call(api.CallRevoke, w.pick(0, 1, 3, 3, 3, 4, 4, 5, into))
			}
		}
		return t + "jal x0, a\n"
	}
}

// wild: how they get code that calls whatever comes, with numbers that it draws as it goes round.
func wild(r *rand.Rand) func(role int) string {
	return func(int) string {
		t := fmt.Sprintf("li x24, %d\nli x25, 1664525\nli x26, 1013904223\na:\n", r.Int31())
		for _, n := range []int{10, 11, 12, 13, 14, 16, 18, 17} {
			bits := []int{2, 3, 4, 5, 5, 5, 7}[r.Intn(7)]
			if n == 17 {
				bits = 5
			}
			t += fmt.Sprintf("mul x24, x24, x25\nadd x24, x24, x26\nsrli x%d, x24, %d\n", n, 32-bits)
		}
		return t + "ecall\njal x0, a\n"
	}
}

// anyCode: one kind of code or another, by turns.
func anyCode(r *rand.Rand, n int) func(role int) string {
	return []func(role int) string{givesAndTakes(r), plays(r, false), wild(r)}[n%3]
}

// usual: under which addresses there is something of a kind, mostly.
func usual(kind int) []int {
	switch kind {
	case api.Untyped:
		return []int{3, 3, 4, 19}
	case api.Frame:
		return []int{5, 13, 16, 17}
	case api.Table:
		return []int{18}
	case api.Root:
		return []int{10, 10, 21}
	case api.Box:
		return []int{14, 15, 34, 20}
	case api.Thread:
		return []int{6, 7, 22}
	case api.End:
		return []int{0, 0, 0, 1, 23}
	case api.Bell:
		return []int{2, 2, 24}
	case api.Irq:
		return []int{8}
	}
	return []int{9}
}

func (w writer) pick(l ...int) int {
	return l[w.r.Intn(len(l))]
}

func (w writer) of(kind int) int {
	if w.r.Intn(12) == 0 {
		return w.some()
	}
	return w.pick(usual(kind)...)
}

func (w writer) some() int {
	switch w.r.Intn(8) {
	case 0:
		return 32 + w.r.Intn(4)
	case 1:
		return 64 + w.r.Intn(8)
	}
	return w.r.Intn(32)
}

func (w writer) fresh() int {
	switch w.r.Intn(10) {
	case 0:
		return w.some()
	case 1:
		return 64 + w.r.Intn(8)
	}
	return 16 + w.r.Intn(16)
}

// spoiled: what goes; mostly what has come meanwhile, so that a thread goes on for a while.
func (w writer) spoiled() int {
	if w.r.Intn(16) == 0 {
		return w.some()
	}
	return 16 + w.r.Intn(10)
}

func (w writer) orNone(address int) int {
	if w.r.Intn(3) == 0 {
		return api.None
	}
	return address
}

// call: the lines of a call; some have one number that is odd.
func (w writer) call(number int, args ...int) string {
	if len(args) > 0 && w.r.Intn(20) == 0 {
		args[w.r.Intn(len(args))] = w.pick(-1, 0, 1, 8, 31, 32, 33, 64, 65, 128, 256, 0x1000, 0x400000, math.MinInt32, math.MaxInt32)
	}
	t := ""
	for i, n := range args {
		t += set(10+i, n)
	}
	return t + set(17, number) + "ecall\n"
}

// set: a register gets a number, by one instruction if that will do.
func set(register, n int) string {
	if n >= -2048 && n < 2048 {
		return fmt.Sprintf("addi x%d, x0, %d\n", register, n)
	}
	return fmt.Sprintf("li x%d, %d\n", register, n)
}

// one: a call of those from 12 on.
func (w writer) one(number int) string {
	switch number {
	case api.CallRetype:
		return w.retype(w.r.Intn(10), w.fresh(), w.pick(1, 1, 2, 5))
	case api.CallCopy, api.CallMove:
		return w.call(number, w.fresh(), w.some(), w.r.Intn(16))
	case api.CallMint:
		return w.call(number, w.fresh(), w.of(w.pick(api.End, api.Bell, api.Box)), 7, w.r.Intn(8), w.pick(0, 1, 3, 25))
	case api.CallDelete, api.CallRevoke:
		return w.call(number, w.spoiled())
	case api.CallUnmap:
		return w.call(number, w.pick(5, 16, 16, 17, 18))
	case api.CallTable:
		return w.call(number, w.of(api.Table), w.of(api.Root), w.va())
	case api.CallMap:
		return w.call(number, w.of(api.Frame), w.of(api.Root), w.va(), w.pick(1, 3, 3, 5, 7))
	case api.CallSetup:
		return w.call(number, w.of(api.Thread), w.orNone(w.of(api.Box)), w.orNone(w.of(api.Root)), w.orNone(w.of(api.End)))
	case api.CallRegs:
		return w.call(number, w.of(api.Thread), 0x1000, 4, 5)
	case api.CallPrio:
		return w.call(number, w.of(api.Thread), w.r.Intn(4))
	case api.CallBind:
		return w.call(number, w.of(api.Irq), w.of(api.Bell))
	case api.CallAck:
		return w.call(number, w.of(api.Irq))
	case api.CallPut, api.CallTake:
		return w.call(number, w.of(api.Port), w.r.Intn(256))
	}
	return w.call(number, w.of(api.Thread))
}

func (w writer) va() int {
	return w.pick(0x3000, 0x4000, 0x4000, 0x5000, 0x400000, 0x401000, 0x800000)
}

func (w writer) retype(kind, into, count int) string {
	size := 0
	switch kind {
	case api.Box:
		size = w.pick(1, 4, 8, 32)
	case api.Untyped:
		size = w.pick(0, 1, 2)
	}
	return w.call(api.CallRetype, w.of(api.Untyped), kind, size, into, count)
}

// play: some calls that belong together.
func (w writer) play() string {
	switch w.r.Intn(10) {
	case 9:
		return w.space()
	case 0: // frames come, are mapped, written to, and go
		t := w.retype(api.Frame, 16, 2) + w.call(api.CallMap, 16, 10, 0x4000, 3) + "sw x10, 4(x8)\n"
		if w.r.Intn(2) == 0 {
			t += w.call(api.CallUnmap, 16)
		}
		return t + w.call(api.CallRevoke, 3)
	case 1: // a table comes, and what is mapped by it goes with it
		return w.retype(api.Table, 18, 1) + w.call(api.CallTable, 18, 10, 0x400000) + w.call(api.CallMap, 16, 10, 0x401000, 1) + w.call(api.CallDelete, 18)
	case 2: // a thread comes, runs by the same code, and goes
		t := w.retype(api.Thread, 22, 1) + w.call(api.CallSetup, 22, 15, 10, w.orNone(0)) + w.call(api.CallRegs, 22, 0x1000, 1, 2) + w.call(api.CallResume, 22)
		return t + w.one(w.pick(api.CallPrio, api.CallSuspend, api.CallDelete, api.CallRevoke))
	case 3: // an end or bell comes, and goes while somebody may wait there
		at, kind, call := 23, api.End, w.pick(api.CallTry, api.CallPoll, api.CallGet)
		if w.r.Intn(2) == 0 {
			at, kind, call = 24, api.Bell, w.pick(api.CallRing, api.CallListen)
		}
		if w.role == warden && call == api.CallGet {
			call = api.CallPoll
		}
		return w.retype(kind, at, 1) + w.call(call, at) + w.call(api.CallDelete, at)
	case 4: // a box comes to where addresses lead through it
		t := w.call(api.CallRetype, w.of(api.Untyped), api.Box, 8, 20, 1) + w.call(api.CallMint, 34, 20, 7, 0, 2)
		for i := range 2 {
			t += w.call(w.pick(api.CallCopy, api.CallMove), 64+i, w.some(), 7)
		}
		return t + w.call(w.pick(api.CallDelete, api.CallRevoke), w.pick(20, 34))
	case 5: // an untyped comes, and something out of it
		return w.call(api.CallRetype, 3, api.Untyped, 1, 19, 1) + w.call(api.CallRetype, 19, w.pick(api.Frame, api.End, api.Thread), 0, 25, 2) + w.call(w.pick(api.CallDelete, api.CallRevoke), w.pick(3, 19, 25))
	case 6: // bytes from a port, to a port
		return w.call(api.CallTake, 9) + w.call(api.CallPut, 9, 'a'+w.r.Intn(26)) + w.call(api.CallAck, 8)
	}
	return w.call(api.CallCopy, w.fresh(), w.some(), 7) + w.call(w.pick(api.CallRevoke, api.CallDelete), w.spoiled())
}

// space: a root, a table and frames come, and are mapped by it; then something of that goes.
func (w writer) space() string {
	t := w.call(api.CallRetype, 3, api.Root, 0, 25, 1) + w.call(api.CallRetype, 3, api.Table, 0, 26, 1) + w.call(api.CallRetype, 3, api.Frame, 0, 27, 2)
	t += w.call(api.CallTable, 26, 25, 0x400000) + w.call(api.CallMap, 27, 25, 0x401000, 3) + w.call(api.CallMap, 28, 25, 0x402000, 1)
	return t + w.call(w.pick(api.CallDelete, api.CallDelete, api.CallUnmap), w.pick(25, 26, 27)) + w.call(w.pick(api.CallDelete, api.CallRevoke), w.pick(25, 26, 27, 3))
}

// watch: another thread is stopped, and begins once more.
func (w writer) watch() string {
	thread := w.pick(6, 7)
	return w.call(api.CallSuspend, thread) + w.call(api.CallRegs, thread, 0x1000, w.r.Intn(9), w.r.Intn(9)) + w.call(api.CallResume, thread)
}

// look: what another part has in its frames is read, and what may be done with a capability of them is tried.
func (w writer) look() string {
	frame := 28 + w.r.Intn(4)
	switch w.r.Intn(12) {
	case 0:
		return w.call(w.pick(api.CallDelete, api.CallRevoke, api.CallUnmap), frame)
	case 1:
		return w.call(api.CallCopy, 27, frame, 7) + w.call(api.CallMap, 27, 10, 0x5000, w.pick(1, 1, 3, 5))
	case 2:
		return w.call(api.CallMove, 26, frame) + w.call(api.CallUnmap, 26)
	case 3:
		return "li x21, 0x5000\nlw x22, 0(x21)\n"
	case 4:
		return fmt.Sprintf("sw x5, %d(x20)\n", 4*w.r.Intn(8))
	}
	t := fmt.Sprintf("li x21, %d\nadd x21, x21, x20\n", api.PageLen*w.r.Intn(4))
	return t + fmt.Sprintf("lw x22, %d(x21)\nsw x22, 64(x9)\nlw x23, 0(x20)\n", 4*w.r.Intn(20))
}

// message: a call of those up to 11, with what may be given.
func (w writer) message() string {
	suit := [][]int{
		getter: {api.CallGet, api.CallGet, api.CallServe, api.CallServe, api.CallHear, api.CallRing},
		sender: {api.CallSend, api.CallCall, api.CallCall, api.CallTry, api.CallTry},
		warden: {api.CallTry, api.CallPoll, api.CallReply, api.CallRing, api.CallListen, api.CallYield},
	}
	number := w.pick(suit[w.role]...)
	kind := api.End
	if number >= api.CallRing {
		kind = api.Bell
	}
	t := set(16, w.orNone(w.some())) + set(18, w.orNone(w.fresh())) + w.call(number, w.of(kind), max(0, w.r.Intn(4)-2), w.r.Intn(9))
	if number == api.CallGet {
		t += w.call(api.CallReply, 0, max(0, w.r.Intn(4)-2), w.r.Intn(9))
	}
	return t
}

// plain: some instructions that do not call.
func (w writer) plain() string {
	t := "lw x5, 0(x9)\naddi x5, x5, 1\nsw x5, 0(x9)\n"
	for range 1 + w.r.Intn(3) {
		t += fmt.Sprintf("sw x%d, %d(x9)\n", 10+w.r.Intn(9), 4+4*w.r.Intn(40))
	}
	return t
}

// code: it goes round for ever, as long as it does not fault.
func (w writer) code() string {
	l := []string{"a:\n"}
	for range 8 + w.r.Intn(8) {
		if w.role == warden && w.r.Intn(8) == 0 {
			l = append(l, w.watch())
		}
		if w.looks && w.r.Intn(3) == 0 {
			l = append(l, w.look())
		}
		switch n := w.r.Intn(40); {
		case n == 0 && w.role != warden:
			l = append(l, []string{".word 0\n", "ebreak\n", "lw x5, 2(x0)\n", "sw x5, 0(x0)\n"}[w.r.Intn(4)])
		case n < 6:
			l = append(l, w.plain())
		case n < 14:
			l = append(l, w.play())
		case n < 28:
			l = append(l, w.message())
		default:
			l = append(l, w.one(api.CallRetype+w.r.Intn(18)))
		}
	}
	return strings.Join(append(l, "jal x0, a\n"), "")
}
