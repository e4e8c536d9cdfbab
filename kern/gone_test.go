package kern_test

import (
	"fmt"
	"strings"
	"testing"

	"vault/api"
)

// TestFrameGoes: it is mapped no more, and its bytes are 0.
func TestFrameGoes(t *testing.T) {
	code := speak(does(api.CallRetype, api.OK, inUntyped, api.Frame, 0, 20, 1)) + speak(does(api.CallMap, api.OK, 20, inRoot, 0x3000, 3)) + "li x5, 0x3000\nli x6, 77\nsw x6, 0(x5)\nsw x6, 0x7fc(x5)\n" + speak(does(api.CallCopy, api.OK, 21, 20, 7)) + speak(does(api.CallDelete, api.OK, 20)) + speak(does(api.CallDelete, api.OK, 21))
	k := boot(t, stage("", code))
	until(t, k, player, api.CallDelete)
	mappings(t, k, ofRoot, atFirst...) // the other capability is mapped nowhere
	has(t, k, 21, capOf(api.Frame, 32, 7), inUntyped)
	s, _ := k.Peek(32*api.PageLen, 1)
	same(t, "its first byte", s, "M")
	rest(t, k)
	isNought(t, k, 32)
	isObject(t, k, api.Frame, 32, false)
	empty(t, k, ofBox, 20, 21)
}

// TestCodeGoes: a thread whose code goes traps.
func TestCodeGoes(t *testing.T) {
	k := play(t, "", does(api.CallDelete, api.OK, inCode))
	isNought(t, k, ofCode)
	did := k.Tick()
	same(t, "Tick", []any{did.Thread, did.Event.Trap, did.Event.Cause, did.Call}, []any{player, true, api.FetchPage, 0})
	stand(t, k, player, api.Idle, api.None, api.None, api.None)
}

// TestRootGoes: what it mapped is mapped nowhere, and may be mapped by another one.
func TestRootGoes(t *testing.T) {
	steps := []step{
		does(api.CallRetype, api.OK, inUntyped, api.Root, 0, 20, 1),
		does(api.CallRetype, api.OK, inUntyped, api.Table, 0, 21, 2),
		does(api.CallRetype, api.OK, inUntyped, api.Frame, 0, 23, 2),
		does(api.CallTable, api.OK, 21, 20, 0),
		does(api.CallTable, api.OK, 22, 20, 0xffc00000),
		does(api.CallMap, api.OK, 23, 20, 0, 3),
		does(api.CallMap, api.OK, 24, 20, 0xfffff000, 3),
		does(api.CallCopy, api.OK, 25, inData, 7),
		does(api.CallMap, api.OK, 25, 20, 0x1000, 3),
	}
	k := play(t, "", append(steps, does(api.CallDelete, api.OK, 20))...)
	for page := 32; page < 37; page++ {
		isNought(t, k, page)
	}
	isObject(t, k, api.Root, 32, false)
	for index := 21; index <= 24; index++ {
		has(t, k, index, capOf(api.Table+(index-21)/2*(api.Frame-api.Table), 33+index-21, 7), inUntyped)
	}
	has(t, k, 25, capOf(api.Frame, ofData, 3), inData)
	mappings(t, k, ofRoot, atFirst...)
	play(t, "", append(steps, does(api.CallDelete, api.OK, 20), does(api.CallTable, api.OK, 21, inRoot, 0x400000), does(api.CallMap, api.OK, 23, inRoot, 0x401000, 3))...)
	// a thread's own slot holds it, too
	play(t, "", does(api.CallDelete, api.OK, inRoot), does(api.CallRetype, api.OK, inUntyped, api.Root, 0, 20, 1))
}

// TestBoxGoes: with it go its capabilities, and what they are of.
func TestBoxGoes(t *testing.T) {
	more := "box y 50 4\nbox z 51 2\nend g 52\nbell l 53\nframe m 54\nthread w 55\ncap x 40 y rwg\ncap y 0 g rw\ncap y 1 z rw\ncap y 3 e r from x 0\ncap z 0 l rw\ncap z 1 w rw\ncap w 3 m r\n"
	k := play(t, more, does(api.CallDelete, api.OK, 40))
	for kind, num := range map[int]int{api.Box: 50, api.End: 52, api.Bell: 53, api.Frame: 54, api.Thread: 55} {
		isObject(t, k, kind, num, false)
	}
	isObject(t, k, api.Box, 51, false)
	isObject(t, k, api.End, ofEnd, true)
	for num := 50; num <= 55; num++ {
		_, e := k.Size(num)
		same(t, "Size", e, api.ErrName)
		_, e = k.Line(num)
		same(t, "Line", e, api.ErrName)
	}
	for _, x := range k.Entries() {
		if x.At.Box >= 50 || x.Cap.Num >= 50 && x.Cap.Kind > api.Untyped {
			t.Errorf("it is there still: %v", x)
		}
	}
	same(t, "threads", len(k.Threads()), 2)
}

// TestBoxInItself: a box that holds itself can be named no more, and stays.
func TestBoxInItself(t *testing.T) {
	more := "box y 50 4\nend g 52\ncap x 40 y rwg\ncap y 0 g rw\ncap y 1 y rw from x 40\n"
	k := play(t, more, does(api.CallDelete, api.OK, 40))
	isObject(t, k, api.Box, 50, true)
	isObject(t, k, api.End, 52, true)
	same(t, "where it comes from", held(k, 50, 1).From, noSlot)
	// Revoke takes the inner one first, and then it is destroyed with the outer one
	k = play(t, more, does(api.CallRevoke, api.OK, 40), does(api.CallDelete, api.OK, 40))
	isObject(t, k, api.Box, 50, false)
	isObject(t, k, api.End, 52, false)
}

// wide: a system with a thread w (page 54), of priority 1, that runs the code of t0 (which is idle). Its addresses: i is slot i of x0, 32+i of x1, 64+i of x2, 96+j of its own box q (page 49), 128+j of what stands in slot 4 of q: a box of 4 slots, with a guard of 3 bits.
func wide(more string, codes ...string) string {
	return system("box q 49 8\nthread w 54\ncap w 0 q - guard 0 24\ncap w 1 r0 -\ncap q 0 x0 - guard 0 1\ncap q 1 x1 - guard 0 1\ncap q 2 x2 - guard 0 1\ncap q 3 q - guard 0 2\n"+more+"start w 0 1 ready 0x1000\n", codes...)
}

// TestBoxInOrder: its slots go from index 0 on, and so who waits goes on.
func TestBoxInOrder(t *testing.T) {
	more := "box y 50 4\nend g 51\nend l 52\nbell n 53\ncap q 4 y rw guard 0 3\ncap x0 7 g rw\ncap x0 8 l rw\ncap x0 9 n rw\ncap x1 7 g r from x0 7\ncap x2 7 l w from x0 8\ncap x3 7 n r from x0 9\n"
	for k := 1; k <= 3; k++ {
		more += fmt.Sprintf("start t%d 0 2 ready 0x1000\n", k)
	}
	code := say(api.CallRevoke, 7) + say(api.CallRevoke, 8) + say(api.CallRevoke, 9) + say(api.CallMove, 128+2, 7) + say(api.CallMove, 128, 8) + say(api.CallMove, 128+1, 9) + say(api.CallDelete, 96+4)
	k := boot(t, wide(more, code, say(api.CallGet, 7), say(api.CallSend, 7), say(api.CallHear, 7)))
	for range 3 {
		until(t, k, 54, api.CallMove)
	}
	line(t, k, 51, 20)
	line(t, k, 52, 30)
	line(t, k, 53, 40)
	until(t, k, 54, api.CallDelete)
	l, _ := k.Queue(0, 2)
	same(t, "Queue", l, []int{30, 40, 20})
	for _, num := range l {
		regs(t, k, num, uint32(api.ErrGone), 0)
		stand(t, k, num, api.Ready, api.None, api.None, api.None)
	}
	_, e := k.Size(50)
	same(t, "Size", e, api.ErrName)
}

// TestRevokeInOrder: what is below goes from the last one on, and so who waits goes on.
func TestRevokeInOrder(t *testing.T) {
	code := say(api.CallRetype, 6, api.End, 0, 7, 2) + say(api.CallCopy, 32+7, 7, 7) + say(api.CallCopy, 64+7, 8, 7) + say(api.CallGet, 2) + say(api.CallRevoke, 6)
	k := boot(t, wide("untyped u 56 1\ncap x0 6 u w\nstart t1 0 0 ready 0x1000\nstart t2 0 0 ready 0x1000\nstart t3 0 0 ready 0x1000\n", code, say(api.CallGet, 7), say(api.CallGet, 7), say(api.CallSend, 2)))
	until(t, k, 40, api.CallSend)
	line(t, k, 56, 20)
	line(t, k, 57, 30)
	until(t, k, 54, api.CallRevoke)
	l, _ := k.Queue(0, 0)
	same(t, "Queue", l, []int{40, 30, 20})
	for _, num := range []int{20, 30} {
		regs(t, k, num, uint32(api.ErrGone))
	}
	isObject(t, k, api.End, 56, false)
	isObject(t, k, api.End, 57, false)
	empty(t, k, 9, 7, 8)
	empty(t, k, 19, 7)
	empty(t, k, 29, 7)
}

// TestRevokedSlotGoes: the slot that is revoked stands in a box that was made of its untyped; so its own capability goes, too.
func TestRevokedSlotGoes(t *testing.T) {
	code := say(api.CallRetype, 6, api.Box, 4, 7, 1) + say(api.CallRetype, 6, api.End, 0, 8, 1) + say(api.CallMint, 96+4, 7, 7, 0, 3) + say(api.CallMove, 128, 6) + say(api.CallMove, 128+1, 8) + say(api.CallRevoke, 128) + say(api.CallRevoke, 128)
	k := boot(t, wide("untyped u 56 1\ncap x0 6 u w\n", code, "", ""))
	calls := rest(t, k)
	for i, did := range calls {
		want := api.OK
		if i == 6 {
			want = api.ErrEmpty
		}
		same(t, fmt.Sprintf("the error of call %d", i), did.Err, want)
	}
	same(t, "calls", len(calls), 7)
	empty(t, k, 9, 6, 7, 8)
	empty(t, k, 49, 4)
	isObject(t, k, api.Box, 56, false)
	isObject(t, k, api.End, 57, false)
	isObject(t, k, api.Untyped, 56+256, true) // since the box lay in it still when it went
}

// TestThreadGoes: it is in no queue and no line, nobody waits for it, and its slots are empty.
func TestThreadGoes(t *testing.T) {
	for _, c := range []struct {
		code string
		prio int
	}{{"a: jal x0, a\n", 0}, {say(api.CallGet, 0), 1}, {say(api.CallCall, 0), 1}, {say(api.CallHear, 1), 1}, {"", 1}} {
		k := boot(t, system("cap x0 6 t1 r\ncap t1 2 f w from x1 2\nframe m 50\ncap t1 3 m r\nstart t0 0 0 ready 0x1000\n"+fmt.Sprintf("start t1 0 %d ready 0x1000\n", c.prio), "addi x0, x0, 0\n"+say(api.CallDelete, 6)+say(api.CallDelete, 6), c.code))
		l := rest(t, k)
		same(t, "calls", l[len(l)-2:], []api.Did{made(10, api.CallDelete, api.OK), made(10, api.CallDelete, api.ErrEmpty)})
		same(t, "threads", len(k.Threads()), 1)
		for prio := range 8 {
			l, _ := k.Queue(0, prio)
			same(t, "how many are ready", len(l), 0)
		}
		line(t, k, 60)
		line(t, k, 61)
		line(t, k, 62)
		isObject(t, k, api.Thread, 20, false)
		isObject(t, k, api.Frame, 50, false)
		isObject(t, k, api.Root, 15, false) // its slot held the last capability of it
		isObject(t, k, api.Box, 19, false)
		for _, x := range k.Entries() {
			if x.At.Box > 10 {
				t.Errorf("it is there still: %v", x)
			}
		}
		_, e := k.Size(20)
		same(t, "Size", e, api.ErrName)
	}
}

// TestThreadComesAgain: nothing is left to a new thread by what was in its page ahead of it.
func TestThreadComesAgain(t *testing.T) {
	comes := does(api.CallRetype, api.OK, inUntyped, api.Thread, 0, 20, 1)
	k := play(t, "", comes, does(api.CallPrio, api.OK, 20, 3), does(api.CallRegs, api.OK, 20, 1, 2, 3), does(api.CallSetup, api.OK, 20, inBox, inRoot, inEnd), does(api.CallDelete, api.OK, 20), comes)
	same(t, "it", thread(t, k, 32), api.ThreadLook{Num: 32, Domain: 2, At: api.None, Caller: api.None, Waits: api.None})
	empty(t, k, 32, 0, 1, 2, 3)
	// a frame, which another thread made in a domain of its own
	text := system("untyped u 48 0\ncap x0 6 u w\ncap x1 6 u w\nstart t0 0 0 ready 0x1000\nstart t1 1 0 ready 0x1000\n", say(api.CallRetype, 6, api.Frame, 0, 7, 1)+say(api.CallDelete, 7), say(api.CallRetype, 6, api.Thread, 0, 7, 1))
	k = boot(t, strings.Replace(text, "turn 0 1000", "turn 0 50\nturn 1 50", 1))
	ticks(k, 100)
	same(t, "it", thread(t, k, 48), api.ThreadLook{Num: 48, Domain: 1, At: api.None, Caller: api.None, Waits: api.None})
}

// TestServerGoes: who waits for the answer of a thread that goes stays as it stands, and waits for nobody's.
func TestServerGoes(t *testing.T) {
	for _, c := range []struct {
		code  string
		state int
	}{{say(api.CallCall, 0, 7) + set(20, 3), api.Asking}, {"", api.Faulted}} {
		code := say(api.CallDelete, 6) + say(api.CallSuspend, 7) + say(api.CallResume, 7)
		k := boot(t, system("cap x0 6 t1 r\ncap x0 7 t2 w\ncap t2 2 e w\n"+start(0, 2, 1), code, say(api.CallGet, 0)+say(api.CallHear, 1), c.code))
		until(t, k, 20, api.CallHear)
		stand(t, k, 30, c.state, api.None, api.None, 20)
		until(t, k, 10, api.CallDelete)
		stand(t, k, 30, c.state, api.None, api.None, api.None)
		same(t, "threads", len(k.Threads()), 2)
		until(t, k, 10, api.CallResume) // by that it goes on
		stand(t, k, 30, api.Ready, api.None, api.None, api.None)
	}
}

// TestCallerGoes: who owes an answer to a thread that goes owes none.
func TestCallerGoes(t *testing.T) {
	k := boot(t, system("cap x0 6 t1 r\n"+start(0, 1), say(api.CallGet, 0)+say(api.CallDelete, 6)+say(api.CallReply, 0, 0), say(api.CallCall, 0, 7)))
	same(t, "calls", rest(t, k), []api.Did{made(20, api.CallCall, api.OK), made(10, api.CallGet, api.OK), made(10, api.CallDelete, api.OK), made(10, api.CallReply, api.ErrState)})
	stand(t, k, 10, api.Idle, api.None, api.None, api.None)
}

// TestThreadTakesItselfAway: the tick tells of its call, and others go on.
func TestThreadTakesItselfAway(t *testing.T) {
	k := boot(t, system("cap x0 6 t0 r\n"+start(1, 0), say(api.CallDelete, 6), set(20, 3)))
	same(t, "Tick", ticks(k, lines(1)), made(10, api.CallDelete, api.OK))
	same(t, "threads", len(k.Threads()), 1)
	same(t, "who runs", k.Tick(), api.Did{Thread: 20})
	isObject(t, k, api.Thread, 10, false)
	isObject(t, k, api.Box, 9, false)
	for _, page := range []int{5, 6, 7, 8, 9, 10} {
		isNought(t, k, page)
	}
	// one that was made takes away all that it was made of
	code := speak(does(api.CallRetype, api.OK, inUntyped, api.Thread, 0, 20, 1)) + speak(does(api.CallSetup, api.OK, 20, inBox, inRoot, inEnd)) + speak(does(api.CallRegs, api.OK, 20, 0x1800, 5, 6)) + speak(does(api.CallResume, api.OK, 20))
	k = boot(t, stage("code c 0x800\n"+speak(does(api.CallRevoke, api.OK, inUntyped))+"stop\n", code))
	l := rest(t, k)
	same(t, "the last call", l[len(l)-1], made(32, api.CallRevoke, api.OK))
	same(t, "threads", len(k.Threads()), 2)
	isObject(t, k, api.Thread, 32, false)
	_, e := k.Queue(2, 0)
	same(t, "Queue", e, api.OK)
}

// TestEndGoes: who waited there is told, in order; who told of a fault there is Idle.
func TestEndGoes(t *testing.T) {
	for _, code := range []string{say(api.CallGet, 6, 5), say(api.CallSend, 6, 5), say(api.CallCall, 6, 5)} {
		text := "end g 50\ncap x0 6 g rw\ncap x1 6 g rw from x0 6\ncap x2 6 g rw from x0 6\nstart t0 0 0 ready 0x1000\nstart t1 0 1 ready 0x1000\nstart t2 0 1 ready 0x1000\n"
		k := boot(t, system(text, say(api.CallRevoke, 6)+say(api.CallDelete, 6), code, code))
		until(t, k, 10, api.CallRevoke)
		line(t, k, 50, 20, 30) // an end is there as long as one can name it
		until(t, k, 10, api.CallDelete)
		l, _ := k.Queue(0, 1)
		same(t, "Queue", l, []int{20, 30})
		for _, num := range l {
			regs(t, k, num, uint32(api.ErrGone), 5)
			stand(t, k, num, api.Ready, api.None, api.None, api.None)
		}
		_, e := k.Line(50)
		same(t, "Line", e, api.ErrName)
		isObject(t, k, api.End, 50, false)
	}
	k := boot(t, system("end g 50\ncap x0 6 g rw\ncap x1 6 g rw from x0 6\ncap t2 2 g w\n"+start(0, 1, 2), say(api.CallRevoke, 6)+say(api.CallDelete, 6), say(api.CallSend, 6), set(10, 4)))
	rest(t, k)
	line(t, k, 50, 30, 20) // the slot of t2 holds it
	k = boot(t, system("end g 50\ncap x0 6 g rw\ncap t2 2 g w from x0 6\ncap x1 6 g rw from x0 6\n"+start(0, 1, 2), say(api.CallRevoke, 6)+say(api.CallDelete, 6), say(api.CallSend, 6, 5), set(10, 4)))
	rest(t, k)
	stand(t, k, 30, api.Idle, api.None, api.None, api.None)
	regs(t, k, 30, 4)
	same(t, "Pc", thread(t, k, 30).Context.Pc, 0x1004)
	stand(t, k, 20, api.Idle, api.None, api.None, api.None)
	regs(t, k, 20, uint32(api.ErrGone), 5)
}

// TestAskedEndGoes: who waits for an answer waits at no end, and is not told.
func TestAskedEndGoes(t *testing.T) {
	k := boot(t, system("end g 50\ncap x0 6 g rw\ncap x1 6 g rw from x0 6\n"+start(0, 1), say(api.CallGet, 6)+say(api.CallRevoke, 6)+say(api.CallDelete, 6)+say(api.CallReply, 0, 5), say(api.CallCall, 6)))
	for _, did := range rest(t, k) {
		same(t, "the error", did.Err, api.OK)
	}
	regs(t, k, 20, 0, 5)
}

// TestBellGoes: the interrupts that were bound to it have none.
func TestBellGoes(t *testing.T) {
	more := "bell g 50\ncap x0 6 g rw\ncap x1 6 g r from x0 6\nirq j 0\nirq l 7\nbind i g 5\nbind j g 6\nbind l b 7\n" + start(0, 1)
	k := boot(t, system(more, say(api.CallRevoke, 6)+say(api.CallDelete, 6), say(api.CallHear, 6, 5)+say(api.CallHear, 6, 5)))
	k.Raise(3)
	k.Raise(3)
	k.Raise(7)
	until(t, k, 10, api.CallRevoke)
	isLine(t, k, 3, 50, 5, true, true)
	line(t, k, 50, 20)
	until(t, k, 10, api.CallDelete)
	isLine(t, k, 3, api.None, 0, false, false)
	isLine(t, k, 0, api.None, 0, false, false)
	isLine(t, k, 7, 61, 7, true, false)
	stand(t, k, 20, api.Ready, api.None, api.None, api.None)
	regs(t, k, 20, uint32(api.ErrGone), 5)
	_, e := k.Word(50)
	same(t, "Word", e, api.ErrName)
	k.Raise(3)
	isLine(t, k, 3, api.None, 0, false, false)
}

func TestIrqGoes(t *testing.T) {
	k := boot(t, stage("bind i b 4\n", speak(does(api.CallCopy, 0, 20, inIrq, 0))+speak(does(api.CallDelete, 0, inIrq))+speak(does(api.CallDelete, 0, 20))))
	k.Raise(ofIrq)
	k.Raise(ofIrq)
	do(t, k, "Copy", does(api.CallCopy, api.OK))
	do(t, k, "Delete of one of two", does(api.CallDelete, api.OK))
	isLine(t, k, ofIrq, ofBell, 4, true, true)
	do(t, k, "Delete of the last one", does(api.CallDelete, api.OK))
	isLine(t, k, ofIrq, api.None, 0, false, false)
	word(t, k, ofBell, 4)
	k.Raise(ofIrq)
	isLine(t, k, ofIrq, api.None, 0, false, false)
	isObject(t, k, api.Frame, ofCode, true) // which has the interrupt's number
}

// TestPortGoes: what waits there stays.
func TestPortGoes(t *testing.T) {
	k := play(t, "", does(api.CallPut, api.OK, inPort, 65), does(api.CallDelete, api.OK, inPort))
	k.Feed(ofPort, "x")
	in, out, e := k.Waiting(ofPort)
	same(t, "Waiting", []any{in, out, e}, []any{"x", "A", api.OK})
	isObject(t, k, api.Frame, ofData, true) // which has the port's number
}

// TestUntypedStays: as long as something lies in it; and if it could be named no more, for ever.
func TestUntypedStays(t *testing.T) {
	made := does(api.CallRetype, api.OK, inUntyped, api.Frame, 0, 20, 2)
	k := play(t, "", does(api.CallDelete, api.OK, inUntyped))
	isObject(t, k, api.Untyped, ofUntyped, false)
	_, e := k.Mark(ofUntyped)
	same(t, "Mark", e, api.ErrName)
	k = play(t, "", made, does(api.CallDelete, api.OK, inUntyped))
	isObject(t, k, api.Untyped, ofUntyped, true)
	has(t, k, 20, capOf(api.Frame, 32, 7), api.None)
	k = play(t, "", made, does(api.CallDelete, api.OK, inUntyped), does(api.CallDelete, api.OK, 20), does(api.CallDelete, api.OK, 21))
	isObject(t, k, api.Untyped, ofUntyped, true)
	isObject(t, k, api.Frame, 32, false)
	mark, e := k.Mark(ofUntyped)
	same(t, "Mark", []any{mark, e}, []any{2, api.OK})
	// its pages are not given again
	k = play(t, "",
		does(api.CallRetype, api.OK, inUntyped, api.Untyped, 1, 20, 1),
		does(api.CallRetype, api.OK, 20, api.Frame, 0, 21, 1),
		does(api.CallDelete, api.OK, 20),
		does(api.CallDelete, api.OK, 21),
		does(api.CallRetype, api.ErrRoom, inUntyped, api.Frame, 0, 30, 7),
		does(api.CallRetype, api.OK, inUntyped, api.Frame, 0, 30, 6))
	has(t, k, 30, capOf(api.Frame, 34, 7), inUntyped)
	// without anything in it, it goes, and its pages are given again
	k = play(t, "",
		does(api.CallRetype, api.OK, inUntyped, api.Untyped, 1, 20, 1),
		does(api.CallDelete, api.OK, 20),
		does(api.CallRetype, api.OK, inUntyped, api.Frame, 0, 30, 8))
	has(t, k, 30, capOf(api.Frame, 32, 7), inUntyped)
}

// TestUntypedOfOnePage: the frame that was made of it has the same number, and keeps its bytes.
func TestUntypedOfOnePage(t *testing.T) {
	code := speak(does(api.CallRetype, 0, inUntyped, api.Untyped, 0, 20, 1)) + speak(does(api.CallRetype, 0, 20, api.Frame, 0, 21, 1)) + speak(does(api.CallMap, 0, 21, inRoot, 0x3000, 3)) + "li x5, 0x3000\nli x6, 77\nsw x6, 4(x5)\n" + speak(does(api.CallDelete, 0, 20))
	k := boot(t, stage("", code))
	for _, did := range rest(t, k) {
		same(t, "the error", did.Err, api.OK)
	}
	s, _ := k.Peek(32*api.PageLen+4, 1)
	same(t, "its byte", s, "M")
	isObject(t, k, api.Frame, 32, true)
	isObject(t, k, api.Untyped, 32, true)
	has(t, k, 21, api.Cap{Object: api.Object{Kind: api.Frame, Num: 32}, Rights: 7, Root: ofRoot + 1, Va: 0x3000}, inUntyped)
}
