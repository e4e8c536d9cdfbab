package kern_test

import (
	"fmt"
	"strings"
	"testing"

	"vault/api"
	"vault/kern"
)

// none in a register says that there is no address: it is 4294967295 there.
const none = -1

// TestNoSuchCall: register 10 is ErrCall, the tick tells of call 0, and all else stays.
func TestNoSuchCall(t *testing.T) {
	for _, c := range []struct {
		calls  string
		number int
	}{
		{"", 0}, {"", 30}, {"", 31}, {"", 32}, {"", 33}, {"", 99}, {"", 65}, {"", -1}, {"", -2048},
		{"calls 0 1 30 31", 0}, {"calls 0 1 30 31", 30}, {"calls 0 1 30 31", 31}, {"calls 0 1 30 31", 33}, {"calls 1 2 3 5 6 7 8 9 10 11", 4}, {"calls", 8}, {"calls 9", 8},
	} {
		k := boot(t, system(c.calls+"\n"+start(0), say(c.number, 2, 7)))
		ticks(k, 3)
		same(t, fmt.Sprintf("%s, call %d", c.calls, c.number), k.Tick(), made(10, 0, api.ErrCall))
		regs(t, k, 10, uint32(api.ErrCall), 7)
		stand(t, k, 10, api.Ready, api.None, api.None, api.None)
	}
	k := boot(t, system("calls 4\n"+start(0), say(api.CallPoll, 2)+say(api.CallGet, 2)))
	same(t, "calls", rest(t, k), []api.Did{made(10, 0, api.ErrCall), made(10, api.CallGet, api.OK)})
}

// TestCapabilitiesThatAreWanted: the errors, in order, of all calls that take one.
func TestCapabilitiesThatAreWanted(t *testing.T) {
	more := "frame z 50\ncap x0 10 e r\ncap x0 11 e w\ncap x0 12 b r\ncap x0 13 b w\ncap x0 14 e g\ncap x0 15 b -\nbox y 51 1\ncap x0 6 y - guard 5 3\n"
	for _, c := range []struct {
		calls []int
		addr  int
		want  api.Errno
	}{
		{[]int{api.CallSend, api.CallTry, api.CallCall, api.CallGet, api.CallPoll, api.CallServe, api.CallRing, api.CallHear, api.CallListen}, 7, api.ErrEmpty},
		{[]int{api.CallSend, api.CallTry, api.CallCall, api.CallGet, api.CallPoll, api.CallServe, api.CallRing, api.CallHear, api.CallListen}, 16, api.ErrSlot},
		{[]int{api.CallSend, api.CallTry, api.CallCall, api.CallGet, api.CallPoll, api.CallServe, api.CallRing, api.CallHear, api.CallListen}, -1, api.ErrSlot},
		{[]int{api.CallSend, api.CallTry, api.CallCall, api.CallGet, api.CallPoll, api.CallServe, api.CallRing, api.CallHear, api.CallListen}, 5, api.ErrKind},
		{[]int{api.CallSend, api.CallTry, api.CallCall, api.CallGet, api.CallPoll, api.CallServe}, 15, api.ErrKind},
		{[]int{api.CallRing, api.CallHear, api.CallListen}, 14, api.ErrKind},
		{[]int{api.CallSend, api.CallTry, api.CallCall}, 10, api.ErrRight},
		{[]int{api.CallSend, api.CallTry, api.CallCall}, 14, api.ErrRight},
		{[]int{api.CallGet, api.CallPoll, api.CallServe}, 11, api.ErrRight},
		{[]int{api.CallRing}, 12, api.ErrRight},
		{[]int{api.CallHear, api.CallListen}, 13, api.ErrRight},
		{[]int{api.CallRing, api.CallHear, api.CallListen}, 15, api.ErrRight},
	} {
		for _, call := range c.calls {
			k := boot(t, system(more+start(0), say(call, c.addr, 1, 2)))
			ticks(k, lines(3)-1)
			was, x := things(k, 64), thread(t, k, 10)
			same(t, fmt.Sprintf("call %d of %d", call, c.addr), k.Tick(), made(10, call, c.want))
			regs(t, k, 10, uint32(c.want), 1, 2)
			same(t, "Pc", thread(t, k, 10).Context.Pc, x.Context.Pc+4)
			stand(t, k, 10, api.Ready, api.None, api.None, api.None)
			if things(k, 64) != was {
				t.Errorf("call %d, which is refused, has changed more than registers", call)
			}
		}
	}
	for space, want := range map[string]api.Errno{"": api.ErrEmpty, "cap h 0 e rwg\n": api.ErrKind, "cap h 0 x0 rw\n": api.ErrKind, "cap h 0 x0 rw guard 1 28\n": api.ErrSlot, "cap h 0 x0 rw guard 0 29\n": api.ErrSlot, "cap h 0 y rw guard 0 29\n": api.ErrEmpty, "box w 52 2\ncap w 0 x0 - guard 0 27\ncap h 0 w -\n": api.ErrWait} {
		k := boot(t, system("box y 51 8\nthread h 53\ncap h 1 r0 rw\n"+space+"start h 0 0 ready 0x1000\n", say(api.CallPoll, 2)))
		ticks(k, lines(1))
		x := thread(t, k, 53)
		same(t, "the error with "+space, api.Errno(x.Context.Regs[10]), want)
	}
}

// TestMessages: whoever comes first, the message is the same.
func TestMessages(t *testing.T) {
	get, send := say(api.CallGet, 0), say(api.CallSend, 0, 7, 1, 2, 3, 4)
	for _, prios := range [][]int{{1, 0}, {0, 1}} {
		k := boot(t, system(start(prios...), get, send))
		rest(t, k)
		regs(t, k, 10, 0, 7, 1, 2, 3, 4, 101, 0)
		regs(t, k, 20, 0, 7, 1, 2, 3, 4, 0, api.CallSend)
		line(t, k, 60)
	}
	k := boot(t, system(start(0, 1), get, send)) // the sender waits
	same(t, "Tick", ticks(k, lines(6)), made(20, api.CallSend, api.OK))
	stand(t, k, 20, api.Sending, 60, api.None, api.None)
	regs(t, k, 20, 0, 7)
	line(t, k, 60, 20)
	same(t, "Tick", ticks(k, lines(1)), made(10, api.CallGet, api.OK))
	stand(t, k, 20, api.Ready, api.None, api.None, api.None)
	stand(t, k, 10, api.Ready, api.None, api.None, api.None)

	k = boot(t, system(start(1, 0), "addi x18, x0, 99\naddi x19, x0, 98\n"+get, send)) // the getter waits
	same(t, "Tick", ticks(k, 2+lines(1)), made(10, api.CallGet, api.OK))
	stand(t, k, 10, api.Getting, 60, api.None, api.None)
	regs(t, k, 10, 0, 0, 0, 0, 0, 0, 0, api.CallGet, 99)
	line(t, k, 60, 10)
	same(t, "Tick", ticks(k, lines(6)), made(20, api.CallSend, api.OK))
	stand(t, k, 10, api.Ready, api.None, api.None, api.None)
	stand(t, k, 20, api.Ready, api.None, api.None, api.None)
	regs(t, k, 10, 0, 7, 1, 2, 3, 4, 101, 0, 99, 98)
}

// TestRegister10OfWhoWaits: it stays as it was till the answer comes, and is OK then.
func TestRegister10OfWhoWaits(t *testing.T) {
	k := boot(t, system("cap x0 9 f rw\n"+start(0, 1), say(api.CallGet, 9), say(api.CallSend, 2, 7)+say(api.CallCall, 2, 8)+say(api.CallHear, 1)))
	ticks(k, lines(2))
	regs(t, k, 20, 2, 7)
	ticks(k, lines(1))
	regs(t, k, 20, 0, 7)
	regs(t, k, 10, 0, 7, 0, 0, 0, 0, 0, 0)
	ticks(k, lines(2))
	stand(t, k, 20, api.Calling, 62, api.None, api.None)
	regs(t, k, 20, 2, 8)
}

func TestTryAndPoll(t *testing.T) {
	k := boot(t, system(start(0), say(api.CallTry, 0, 7)+say(api.CallPoll, 0, 7)))
	same(t, "calls", rest(t, k), []api.Did{made(10, api.CallTry, api.ErrWait), made(10, api.CallPoll, api.ErrWait)})
	regs(t, k, 10, uint32(api.ErrWait), 7)
	line(t, k, 60)
	k = boot(t, system(start(1, 0), say(api.CallGet, 0), say(api.CallTry, 0, 7))) // somebody gets
	same(t, "calls", rest(t, k), []api.Did{made(10, api.CallGet, api.OK), made(20, api.CallTry, api.OK)})
	regs(t, k, 10, 0, 7)
	regs(t, k, 20, 0, 7)
	k = boot(t, system(start(1, 0), say(api.CallSend, 0, 7), say(api.CallPoll, 0)+say(api.CallPoll, 0))) // somebody sends
	same(t, "calls", rest(t, k), []api.Did{made(10, api.CallSend, api.OK), made(20, api.CallPoll, api.OK), made(20, api.CallPoll, api.ErrWait)})
	regs(t, k, 20, uint32(api.ErrWait), 7, 0, 0, 0, 0, 100)
	k = boot(t, system(start(1, 0), say(api.CallSend, 0, 7), say(api.CallTry, 0, 9))) // somebody is there, but sends
	same(t, "calls", rest(t, k), []api.Did{made(10, api.CallSend, api.OK), made(20, api.CallTry, api.ErrWait)})
	line(t, k, 60, 10)
}

// nextCall: ticks up to one in which a call is made, but no more than a few.
func nextCall(k *kern.Kernel) (did api.Did) {
	for range 20 {
		if did = k.Tick(); did.Event.Cause == api.Ecall {
			break
		}
	}
	return did
}

// TestLineAtAnEnd: who came first is met first.
func TestLineAtAnEnd(t *testing.T) {
	get := say(api.CallGet, 2)
	k := boot(t, system(start(0, 3, 2, 1), get+get+get, say(api.CallSend, 2, 1), say(api.CallCall, 2, 2), say(api.CallSend, 2, 3)))
	ticks(k, 3*lines(2))
	line(t, k, 62, 20, 30, 40)
	for n, left := range [][]int{{30, 40}, {40}, nil} {
		same(t, "the call", nextCall(k), made(10, api.CallGet, api.OK))
		regs(t, k, 10, 0, uint32(n+1))
		line(t, k, 62, left...)
	}
}

func TestCallAndReply(t *testing.T) {
	server := say(api.CallGet, 0) + say(api.CallReply, 9, 5, 6, 7, 8, 9)
	for _, prios := range [][]int{{0, 1}, {1, 0}} {
		k := boot(t, system(start(prios...), server, say(api.CallCall, 0, 7, 1, 2, 3, 4)))
		ticks(k, lines(1)+lines(6))
		stand(t, k, 20, api.Asking, api.None, api.None, 10)
		stand(t, k, 10, api.Ready, api.None, 20, api.None)
		regs(t, k, 10, 0, 7, 1, 2, 3, 4, 101, 0)
		regs(t, k, 20, 0, 7, 1, 2, 3, 4, 0, api.CallCall)
		same(t, "Tick", ticks(k, lines(6)), made(10, api.CallReply, api.OK))
		stand(t, k, 20, api.Ready, api.None, api.None, api.None)
		stand(t, k, 10, api.Ready, api.None, api.None, api.None)
		regs(t, k, 20, 0, 5, 6, 7, 8, 9, 0, 0)
		regs(t, k, 10, 0, 5, 6, 7, 8, 9, 101, api.CallReply)
	}
	k := boot(t, system(start(0), say(api.CallReply, 9, 5)))
	same(t, "calls", rest(t, k), []api.Did{made(10, api.CallReply, api.ErrState)})
	k = boot(t, system(start(0, 1), server+say(api.CallReply, 9, 5), say(api.CallCall, 0, 7))) // one answer each
	same(t, "calls", rest(t, k), []api.Did{made(20, api.CallCall, api.OK), made(10, api.CallGet, api.OK), made(10, api.CallReply, api.OK), made(10, api.CallReply, api.ErrState)})
	k = boot(t, system(start(0, 1), server, say(api.CallSend, 0, 7))) // who sends wants none
	same(t, "calls", rest(t, k), []api.Did{made(20, api.CallSend, api.OK), made(10, api.CallGet, api.OK), made(10, api.CallReply, api.ErrState)})
}

// TestSecondCaller: who waited till then waits for nobody's answer, and stays so.
func TestSecondCaller(t *testing.T) {
	get := say(api.CallGet, 0)
	k := boot(t, system(start(0, 2, 1), get+get+say(api.CallReply, 0, 5)+say(api.CallReply, 0, 6), say(api.CallCall, 0, 1), say(api.CallCall, 0, 2)))
	ticks(k, 2*lines(2)+2*lines(1))
	stand(t, k, 10, api.Ready, api.None, 30, api.None)
	stand(t, k, 20, api.Asking, api.None, api.None, api.None)
	stand(t, k, 30, api.Asking, api.None, api.None, 10)
	same(t, "calls", rest(t, k), []api.Did{made(10, api.CallReply, api.OK), made(10, api.CallReply, api.ErrState)})
	stand(t, k, 20, api.Asking, api.None, api.None, api.None)
	regs(t, k, 20, 0, 1)
	regs(t, k, 30, 0, 5)
}

// TestCallerStays: who sends without a question takes no caller's place.
func TestCallerStays(t *testing.T) {
	get := say(api.CallGet, 0)
	k := boot(t, system(start(0, 2, 1), get+get+say(api.CallReply, 0, 5), say(api.CallCall, 0, 1), say(api.CallSend, 0, 2)))
	rest(t, k)
	regs(t, k, 20, 0, 5)
	regs(t, k, 30, 0, 2)
}

func TestServe(t *testing.T) {
	k := boot(t, system(start(0, 1), say(api.CallServe, 0, 1)+say(api.CallServe, 0, 3, 4), say(api.CallCall, 0, 7)))
	same(t, "calls", rest(t, k), []api.Did{made(20, api.CallCall, api.OK), made(10, api.CallServe, api.OK), made(10, api.CallServe, api.OK)})
	regs(t, k, 20, 0, 3, 4, 0, 0, 0, 0, 0)
	stand(t, k, 10, api.Getting, 60, api.None, api.None)
	stand(t, k, 20, api.Idle, api.None, api.None, api.None)
	// the answer is given, also where Get is refused then
	k = boot(t, system(start(0, 1), say(api.CallGet, 0)+say(api.CallServe, 1, 3, 4), say(api.CallCall, 0, 7)))
	same(t, "calls", rest(t, k), []api.Did{made(20, api.CallCall, api.OK), made(10, api.CallGet, api.OK), made(10, api.CallServe, api.ErrKind)})
	regs(t, k, 20, 0, 3, 4)
	regs(t, k, 10, uint32(api.ErrKind), 3, 4)
	// and one that waits to be got is got at once
	k = boot(t, system(start(0, 2, 1), say(api.CallGet, 0)+say(api.CallServe, 0, 3), say(api.CallCall, 0, 7), say(api.CallSend, 0, 8)))
	ticks(k, 2*lines(2)+lines(1)+lines(2))
	regs(t, k, 20, 0, 3)
	regs(t, k, 10, 0, 8, 0, 0, 0, 0, 102, 0)
	stand(t, k, 10, api.Ready, api.None, api.None, api.None)
}

func TestYield(t *testing.T) {
	k := boot(t, system(start(2, 2, 1), say(api.CallYield, 4), say(api.CallYield, 4), ""))
	same(t, "Tick", ticks(k, 3), made(10, api.CallYield, api.OK))
	regs(t, k, 10, 0)
	l, _ := k.Queue(0, 2)
	same(t, "Queue", l, []int{20, 10})
	same(t, "what is left", thread(t, k, 10).Left, 5)
	same(t, "who runs", k.Tick().Thread, 20)
}

func TestBells(t *testing.T) {
	hear := say(api.CallHear, 1)
	k := boot(t, system(start(2, 1, 0), hear+hear, hear, say(api.CallRing, 1)))
	same(t, "Tick", ticks(k, lines(1)), made(10, api.CallHear, api.OK))
	stand(t, k, 10, api.Hearing, 61, api.None, api.None)
	regs(t, k, 10, 1, 0, 0, 0, 0, 0, 0, api.CallHear)
	ticks(k, lines(1))
	line(t, k, 61, 10, 20)
	same(t, "Tick", ticks(k, lines(1)), made(30, api.CallRing, api.OK))
	regs(t, k, 10, 0, 0, 0, 0, 0, 0, 4, 0)
	regs(t, k, 30, 0)
	stand(t, k, 10, api.Ready, api.None, api.None, api.None)
	line(t, k, 61, 20)
	w, _ := k.Word(61)
	same(t, "Word", w, 0)
	rest(t, k)
	line(t, k, 61, 20, 10)
	// nobody waits: the bits are kept, and heard at once
	ring := say(api.CallRing, 1)
	k = boot(t, system("cap x0 6 b w badge 8\ncap x0 7 b w\n"+start(0), say(api.CallListen, 1)+ring+ring+say(api.CallRing, 6)+say(api.CallRing, 7)+"addi x11, x0, 5\naddi x12, x0, 5\naddi x15, x0, 5\n"+say(api.CallListen, 1)+hear))
	same(t, "Tick", ticks(k, lines(1)), made(10, api.CallListen, api.ErrWait))
	regs(t, k, 10, uint32(api.ErrWait))
	line(t, k, 61)
	ticks(k, 4*lines(1))
	w, _ = k.Word(61)
	same(t, "Word", w, 9)
	same(t, "Tick", ticks(k, 3+lines(1)), made(10, api.CallListen, api.OK))
	regs(t, k, 10, 0, 0, 0, 0, 0, 0, 9, 0)
	rest(t, k)
	stand(t, k, 10, api.Hearing, 61, api.None, api.None)
	k = boot(t, system(start(0), ring+hear))
	same(t, "calls", rest(t, k), []api.Did{made(10, api.CallRing, api.OK), made(10, api.CallHear, api.OK)})
	regs(t, k, 10, 0, 0, 0, 0, 0, 0, 1, 0)
}

func TestRaise(t *testing.T) {
	k := boot(t, system("bind i b 64\nirq j 0\nbind j b 1\n"+start(0), say(api.CallHear, 1)))
	irq := func(n int, want ...any) {
		t.Helper()
		bell, badge, masked, pending, e := k.Irq(n)
		same(t, "Irq", []any{bell, badge, masked, pending, e}, append(want, api.OK))
	}
	same(t, "Raise of one without a bell", k.Raise(1), api.OK)
	irq(1, api.None, uint32(0), false, false)
	same(t, "Raise", k.Raise(3), api.OK)
	irq(3, 61, uint32(64), true, false)
	irq(0, 61, uint32(1), false, false)
	w, _ := k.Word(61)
	same(t, "Word", w, 64)
	for range 2 {
		same(t, "Raise of one that is masked", k.Raise(3), api.OK)
		irq(3, 61, uint32(64), true, true)
	}
	rest(t, k)
	regs(t, k, 10, 0, 0, 0, 0, 0, 0, 64, 0)
	k = boot(t, system("bind i b 64\n"+start(0), say(api.CallHear, 1)))
	rest(t, k)
	same(t, "Raise", k.Raise(3), api.OK)
	stand(t, k, 10, api.Ready, api.None, api.None, api.None)
	regs(t, k, 10, 0, 0, 0, 0, 0, 0, 64, 0)
	w, _ = k.Word(61)
	same(t, "Word", w, 0)
}

func TestFaultsToldToNobody(t *testing.T) {
	for _, more := range []string{"", "cap t0 2 e r\n", "cap t0 2 e rg\n", "cap t0 2 b rw\n", "cap t0 3 e w\n", "cap t0 2 x0 rw\n"} {
		k := boot(t, system(more+start(0), "addi x10, x0, 77\n"))
		same(t, "Tick", ticks(k, 2), api.Did{Thread: 10, Event: api.Event{Trap: true, Cause: api.Break, Tval: 0x1004}})
		stand(t, k, 10, api.Idle, api.None, api.None, api.None)
		line(t, k, 60)
		regs(t, k, 10, 77)
		same(t, "Pc", thread(t, k, 10).Context.Pc, 0x1004)
	}
}

func TestFaults(t *testing.T) {
	for _, c := range []struct {
		code        string
		cause, tval uint32
	}{{"lb x1, 0(x0)\n", api.LoadPage, 0}, {".word 0\n", api.Illegal, 0}, {"lw x1, 5(x0)\n", api.LoadAlign, 5}, {"sw x1, 8(x0)\n", api.StorePage, 8}, {"ebreak\n", api.Break, 0x1004}, {"jalr x0, 2(x0)\n", api.FetchAlign, 2}, {".word 0xffffffff\n", api.Illegal, 0xffffffff}} {
		for _, prios := range [][]int{{1, 0}, {0, 1}} {
			k := boot(t, system("cap t1 2 f w badge 9\n"+start(prios...), say(api.CallGet, 2)+say(api.CallReply, 0, 0), "addi x10, x0, 77\n"+c.code))
			ticks(k, 2+lines(1))
			regs(t, k, 10, 0, c.cause, c.tval, 0x1004, 0, 0, 9, 0)
			stand(t, k, 10, api.Ready, api.None, 20, api.None)
			stand(t, k, 20, api.Faulted, api.None, api.None, 10)
			regs(t, k, 20, 77, 0, 0, 0, 0, 0, 0, 0)
			was := thread(t, k, 20)
			same(t, "Tick", ticks(k, lines(2)), made(10, api.CallReply, api.OK))
			stand(t, k, 20, api.Ready, api.None, api.None, api.None)
			same(t, "registers", thread(t, k, 20).Context, was.Context)
			rest(t, k) // what it trapped for it does once more
			stand(t, k, 20, api.Faulting, 62, api.None, api.None)
			line(t, k, 62, 20)
			regs(t, k, 20, 77)
		}
	}
}

// TestFaultedIsToldToStop: with another label than 0 it is idle.
func TestFaultedIsToldToStop(t *testing.T) {
	for _, call := range []int{api.CallReply, api.CallServe} {
		k := boot(t, system("cap t1 2 f w badge 9\n"+start(1, 0), say(api.CallGet, 2)+say(call, 2, 1, 6), "addi x10, x0, 77\n"))
		rest(t, k)
		stand(t, k, 20, api.Idle, api.None, api.None, api.None)
		regs(t, k, 20, 77, 0, 0, 0)
		same(t, "Pc", thread(t, k, 20).Context.Pc, 0x1004)
	}
}

// TestFaultTakesACallersPlace: who tells of a fault wants an answer, as a caller does.
func TestFaultTakesACallersPlace(t *testing.T) {
	get := say(api.CallGet, 0)
	k := boot(t, system("cap t2 2 e w\n"+start(0, 2, 1), get+get+say(api.CallReply, 0, 0, 5), say(api.CallCall, 0, 1), ""))
	rest(t, k)
	stand(t, k, 20, api.Asking, api.None, api.None, api.None)
	stand(t, k, 30, api.Faulting, 60, api.None, api.None)
}

// given: a system in which thread 20 sends with register 16, and thread 10 gets with register 18.
func given(call int, what, into int) []string {
	return []string{set(18, into) + say(api.CallGet, 0), set(16, what) + say(call, 0, 7)}
}

func TestGiven(t *testing.T) {
	for _, c := range []struct {
		what int
		want api.Cap
	}{
		{1, api.Cap{Object: api.Object{Kind: api.Bell, Num: 61}, Rights: 3, Badge: 2}},
		{0, api.Cap{Object: api.Object{Kind: api.End, Num: 60}, Rights: 7, Badge: 101}},
		{4, api.Cap{Object: api.Object{Kind: api.Frame, Num: 17}, Rights: 5}},
		{3, api.Cap{Object: api.Object{Kind: api.Table, Num: 16}, Rights: 3}},
		{9, api.Cap{Object: api.Object{Kind: api.Box, Num: 19}, Rights: 2, Guard: 3, GuardBits: 4}},
	} {
		for _, call := range []int{api.CallSend, api.CallCall, api.CallTry} {
			for _, prios := range [][]int{{1, 0}, {0, 1}} {
				if call == api.CallTry && prios[0] == 0 {
					continue // it would not wait for who gets
				}
				k := boot(t, system("cap x1 9 x1 w guard 3 4\n"+start(prios...), given(call, c.what, 12)...))
				rest(t, k)
				regs(t, k, 10, 0, 7, 0, 0, 0, 0, 101, 1, 12)
				want := api.Entry{At: api.Slot{Box: 9, Index: 12}, Cap: c.want, From: api.Slot{Box: 19, Index: c.what}}
				same(t, "what is given", held(k, 9, 12), want)
			}
		}
	}
}

// TestNotGiven: the message goes, and nothing with it.
func TestNotGiven(t *testing.T) {
	for _, c := range []struct {
		more       string
		what, into int
		end        int
	}{
		{"", none, 12, 0}, {"", 1, none, 0}, {"", none, none, 0},
		{"", 8, 12, 0}, {"", 16, 12, 0}, {"", 1, 0, 0}, {"", 1, 16, 0}, {"", 1, -2, 0},
		{"cap x1 7 e w badge 101\n", 1, 12, 7}, {"cap x1 7 e rw badge 101\n", 1, 12, 7},
	} {
		for _, prios := range [][]int{{1, 0}, {0, 1}} {
			codes := given(api.CallSend, c.what, c.into)
			codes[1] = strings.Replace(codes[1], set(10, 0), set(10, c.end), 1)
			k := boot(t, system(c.more+start(prios...), codes...))
			was := fmt.Sprint(k.Entries())
			rest(t, k)
			regs(t, k, 10, 0, 7, 0, 0, 0, 0, 101, 0)
			regs(t, k, 20, 0, 7)
			same(t, "entries", fmt.Sprint(k.Entries()), was)
		}
	}
}

// TestNoneIsNoAddress: not even where that number would lead to a slot.
func TestNoneIsNoAddress(t *testing.T) {
	high := "box y 50 2\nthread h 51\ncap h 0 y - guard 0x7fffffff 31\ncap h 1 r0 -\ncap y 0 e rwg badge 5\n"
	// h gets into the last slot of all, which is empty
	k := boot(t, system(high+"start h 0 1 ready 0x1000\nstart t1 0 0 ready 0x1000\n", set(18, none)+say(api.CallGet, -2), set(16, 1)+say(api.CallSend, 0, 7)))
	rest(t, k)
	regs(t, k, 51, 0, 7, 0, 0, 0, 0, 101, 0, 4294967295)
	same(t, "what is given", held(k, 50, 1), api.Entry{})
	// h sends what stands there
	k = boot(t, system(high+"cap y 1 b rw\nstart h 0 1 ready 0x1000\nstart t1 0 0 ready 0x1000\n", set(16, none)+say(api.CallSend, -2, 7), set(18, 12)+say(api.CallGet, 0)))
	rest(t, k)
	regs(t, k, 20, 0, 7, 0, 0, 0, 0, 5, 0)
	same(t, "what is given", held(k, 19, 12), api.Entry{})
}

// TestNothingIsGivenWithAFault: also where the end gives Grant, and where one to which the thread sent ahead did.
func TestNothingIsGivenWithAFault(t *testing.T) {
	for _, rights := range []string{"w", "wg"} {
		k := boot(t, system("cap t1 2 e "+rights+" badge 9\n"+start(1, 0), "addi x18, x0, 12\n"+say(api.CallGet, 0)+say(api.CallGet, 0), "addi x16, x0, -1\n"+say(api.CallSend, 0)+"addi x16, x0, 1\n"))
		was := fmt.Sprint(k.Entries())
		rest(t, k)
		regs(t, k, 10, 0, api.Break, 0x1014, 0x1014, 0, 0, 9, 0)
		stand(t, k, 20, api.Faulted, api.None, api.None, 10)
		same(t, "entries", fmt.Sprint(k.Entries()), was)
	}
}

// TestNothingIsGivenWithAnAnswer: nor by Reply, nor by a bell.
func TestNothingIsGivenWithAnAnswer(t *testing.T) {
	k := boot(t, system(start(0, 1), "addi x18, x0, -1\n"+say(api.CallGet, 0)+"addi x16, x0, 1\n"+say(api.CallReply, 0, 5), "addi x16, x0, -1\naddi x18, x0, 12\n"+say(api.CallCall, 0, 7)))
	was := fmt.Sprint(k.Entries())
	rest(t, k)
	regs(t, k, 20, 0, 5, 0, 0, 0, 0, 0, 0, 12)
	same(t, "entries", fmt.Sprint(k.Entries()), was)
}

// TestGrantIsOfTheLastEnd: what an end gave ahead does not count any more.
func TestGrantIsOfTheLastEnd(t *testing.T) {
	get := "addi x18, x0, 12\n" + say(api.CallGet, 0) + say(api.CallGet, 0)
	for _, c := range []struct {
		first, second int
		given         bool
	}{{0, 7, false}, {7, 0, true}} {
		sends := fmt.Sprintf("addi x16, x0, -1\n%saddi x16, x0, 1\n%s", say(api.CallSend, c.first), say(api.CallSend, c.second))
		for _, prios := range [][]int{{1, 0}, {0, 1}} {
			k := boot(t, system("cap x1 7 e w\n"+start(prios...), get, sends))
			rest(t, k)
			same(t, "whether it is given", held(k, 9, 12) != api.Entry{}, c.given)
		}
	}
}

// TestGivenByWayOfBoxes: addresses go by way of each one's own space.
func TestGivenByWayOfBoxes(t *testing.T) {
	more := "box y 50 4\ncap x0 9 y - guard 1 2\nthread h 51\ncap h 1 r0 -\nbox z 52 2\ncap z 1 x0 - guard 0 5\ncap h 0 z - guard 5 22\nstart h 0 2 ready 0x1000\nstart t1 0 1 ready 0x1000\n"
	// h: 22 bits that are 5, one that is the index in z, five that are 0, four that are the index in x0: of 32 bits none are left
	get := fmt.Sprintf("li x18, %d\nli x10, %d\naddi x17, x0, 4\necall\n", 5<<10|1<<9|13, 5<<10|1<<9|0)
	k := boot(t, system(more, get, "addi x16, x0, 2\n"+say(api.CallSend, 0, 7)))
	rest(t, k)
	same(t, "what is given", held(k, 9, 13), api.Entry{At: api.Slot{Box: 9, Index: 13}, Cap: api.Cap{Object: api.Object{Kind: api.End, Num: 62}, Rights: 3}, From: api.Slot{Box: 19, Index: 2}})
}

// TestTickTellsOfOneCall: a tick without a call tells of none.
func TestTickTellsOfOneCall(t *testing.T) {
	k := boot(t, system(start(0), say(api.CallYield)))
	same(t, "Tick", k.Tick(), api.Did{Thread: 10})
	same(t, "Tick", k.Tick(), made(10, api.CallYield, api.OK))
	same(t, "Tick", k.Tick(), api.Did{Thread: 10, Event: api.Event{Trap: true, Cause: api.Break, Tval: 0x1008}})
	same(t, "Tick", k.Tick(), api.Did{Thread: api.None})
}

// TestDomains: threads of another domain are met, but run in their own turn.
func TestDomains(t *testing.T) {
	text := strings.Replace(system("start t0 0 0 ready 0x1000\nstart t1 1 7 ready 0x1000\n", say(api.CallGet, 0), say(api.CallSend, 0, 7)), "turn 0 1000", "turn 0 3\nturn 1 4", 1)
	k := boot(t, text)
	for n, want := range []int{10, 10, 10, 20, 20, 20, 20, 10} {
		same(t, fmt.Sprintf("who runs in tick %d", n), k.Tick().Thread, want)
	}
	regs(t, k, 10, 0, 7, 0, 0, 0, 0, 101, 0)
}
