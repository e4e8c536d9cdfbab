package kern_test

import (
	"testing"

	"vault/api"
)

func TestSetup(t *testing.T) {
	s := api.CallSetup
	k := play(t, "cap x 40 r r\ncap x 41 e r\ncap x 42 x - guard 5 10\n", does(s, api.OK, inThread, 42, 40, 41), does(s, api.OK, inThread, none, none, none))
	box := capOf(api.Box, ofBox, 0)
	box.Guard, box.GuardBits = 5, 10
	for i, c := range []api.Cap{box, capOf(api.Root, ofRoot, 1), capOf(api.End, ofEnd, 1)} {
		want := api.Entry{At: api.Slot{Box: ofThread, Index: i}, Cap: c, From: api.Slot{Box: ofBox, Index: []int{42, 40, 41}[i]}}
		same(t, "a slot", held(k, ofThread, i), want)
	}
	empty(t, k, ofThread, 3)
	k = play(t, "", does(s, api.OK, inThread, none, none, inBadged))
	empty(t, k, ofThread, 0, 1)
	badged := capOf(api.End, ofBadged, 3)
	badged.Badge = 7
	same(t, "the fault end", held(k, ofThread, 2).Cap, badged)
	// one behind the other: what is wanted, and whether the slot is empty
	play(t, "",
		does(s, api.ErrSlot, inThread, 64, inEnd, inBell),
		does(s, api.ErrEmpty, inThread, free, inEnd, inBell),
		does(s, api.ErrKind, inThread, inRoot, inEnd, inBell),
		does(s, api.ErrSlot, inThread, inBox, 64, inBell),
		does(s, api.ErrKind, inThread, inBox, inTable, inBell),
		does(s, api.ErrKind, inThread, inBox, inRoot, inBell),
		does(s, api.ErrEmpty, inThread, none, none, free),
		does(s, api.OK, inThread, none, inRoot, none),
		does(s, api.ErrKind, inThread, inEnd, inRoot, inEnd),
		does(s, api.ErrEmpty, inThread, none, free, inBell),
		does(s, api.ErrFull, inThread, inBox, inRoot, inBell),
		does(s, api.OK, inThread, inBox, none, none),
		does(s, api.ErrFull, inThread, inBox, free, free),
		does(s, api.OK, inThread, none, none, inEnd),
		does(s, api.ErrFull, inThread, none, none, inEnd))
}

// TestSetupOfItself: of a thread that runs, too.
func TestSetupOfItself(t *testing.T) {
	k := play(t, "cap x 40 t w\n", does(api.CallSetup, api.ErrFull, 40, inBox, none, none), does(api.CallSetup, api.OK, 40, none, none, inBadged))
	same(t, "its end", held(k, player, 2).From, api.Slot{Box: ofBox, Index: inBadged})
	ticks(k, 1) // it tells of its ebreak there
	stand(t, k, player, api.Faulting, ofBadged, api.None, api.None)
}

func TestRegs(t *testing.T) {
	k := play(t, "", does(api.CallRegs, api.OK, inThread, none, 77, 78))
	want := api.Context{Pc: 4294967295}
	want.Regs[2], want.Regs[5], want.Regs[10] = 77, 55, 78
	same(t, "context", thread(t, k, ofThread).Context, want)
	stand(t, k, ofThread, api.Idle, api.None, api.None, api.None)
	play(t, "", does(api.CallResume, api.OK, inThread), does(api.CallRegs, api.ErrState, inThread, 1, 2, 3))
	play(t, "cap x 40 t w\n", does(api.CallRegs, api.ErrState, 40, 1, 2, 3))
}

func TestResume(t *testing.T) {
	k := play(t, "", does(api.CallPrio, api.OK, inThread, 3), does(api.CallResume, api.OK, inThread))
	stand(t, k, ofThread, api.Ready, api.None, api.None, api.None)
	same(t, "what is left", thread(t, k, ofThread).Left, 5)
	play(t, "cap x 40 t w\n", does(api.CallResume, api.OK, inThread), does(api.CallResume, api.ErrState, inThread), does(api.CallResume, api.ErrState, 40))
}

// TestMadeThread: a thread that is made, set up and resumed runs.
func TestMadeThread(t *testing.T) {
	code := speak(does(api.CallRetype, api.OK, inUntyped, api.Thread, 0, 20, 1)) + speak(does(api.CallSetup, api.OK, 20, inBox, inRoot, inEnd)) + speak(does(api.CallRegs, api.OK, 20, 0x1800, 5, inBell)) + speak(does(api.CallPrio, api.OK, 20, 2)) + speak(does(api.CallResume, api.OK, 20))
	k := boot(t, stage("code c 0x800\nli x17, 9\necall\naddi x2, x2, 1\nebreak\nstop\n", code))
	for _, did := range rest(t, k) {
		same(t, "the error", did.Err, api.OK)
	}
	stand(t, k, 32, api.Faulting, ofEnd, api.None, api.None)
	x := thread(t, k, 32)
	same(t, "it", []any{x.Domain, x.Prio, x.Context.Regs[2], x.Context.Pc}, []any{2, 2, uint32(6), uint32(0x1810)})
}

func TestPrio(t *testing.T) {
	k := play(t, "",
		does(api.CallPrio, api.ErrArg, inThread, 8),
		does(api.CallPrio, api.ErrArg, inThread, none),
		does(api.CallPrio, api.ErrArg, inThread, 1<<31|1),
		does(api.CallPrio, api.ErrRight, inThread, 4),
		does(api.CallPrio, api.ErrRight, inThread, 7),
		does(api.CallPrio, api.OK, inThread, 3))
	same(t, "priority", thread(t, k, ofThread).Prio, 3)
	stand(t, k, ofThread, api.Idle, api.None, api.None, api.None)
	k = play(t, "", does(api.CallPrio, api.OK, inThread, 3), does(api.CallResume, api.OK, inThread))
	l, _ := k.Queue(2, 3)
	same(t, "Queue", l, []int{player, ofThread})
	// its own priority goes down, and then it can't go up
	k = play(t, "cap x 40 t w\n", does(api.CallPrio, api.OK, 40, 1), does(api.CallPrio, api.ErrRight, 40, 2), does(api.CallPrio, api.ErrRight, inThread, 2), does(api.CallPrio, api.OK, inThread, 1))
	same(t, "priorities", [2]int{thread(t, k, player).Prio, thread(t, k, ofThread).Prio}, [2]int{1, 1})
	l, _ = k.Queue(2, 1)
	same(t, "Queue", l, []int{player})
}

// TestPrioOfTheSame: who keeps its priority comes to the end of its queue, too.
func TestPrioOfTheSame(t *testing.T) {
	spin := "a: jal x0, a\n"
	k := boot(t, system("cap x0 6 t0 w\n"+start(2, 2), say(api.CallPrio, 6, 2), spin))
	same(t, "Tick", ticks(k, lines(2)), made(10, api.CallPrio, api.OK))
	l, _ := k.Queue(0, 2)
	same(t, "Queue", l, []int{20, 10})
	same(t, "what is left", thread(t, k, 10).Left, 5)
}

// TestSuspend: in whichever state a thread stands, it is Idle, and nobody counts on it.
func TestSuspend(t *testing.T) {
	suspend := say(api.CallSuspend, 6)
	for _, c := range []struct {
		code  string
		state int
		at    int
	}{
		{say(api.CallGet, 0), api.Getting, 60}, {say(api.CallSend, 0), api.Sending, 60}, {say(api.CallCall, 0), api.Calling, 60}, {say(api.CallHear, 1), api.Hearing, 61}, {"", api.Faulting, 62}, {"a: jal x0, a\n", api.Ready, api.None},
	} {
		prio := 1
		if c.state == api.Ready {
			prio = 0
		}
		k := boot(t, system("cap x0 6 t1 w\ncap t1 2 f w\n"+start(0, prio), "addi x0, x0, 0\n"+suspend+suspend, c.code))
		for range 20 {
			if k.Tick().Thread == 10 {
				break
			}
		}
		stand(t, k, 20, c.state, c.at, api.None, api.None)
		was := thread(t, k, 20).Context
		until(t, k, 10, api.CallSuspend)
		stand(t, k, 20, api.Idle, api.None, api.None, api.None)
		same(t, "what is left", thread(t, k, 20).Left, 0)
		if c.state != api.Ready {
			same(t, "context", thread(t, k, 20).Context, was)
			line(t, k, c.at)
		}
		rest(t, k)
		stand(t, k, 20, api.Idle, api.None, api.None, api.None)
	}
}

// TestSuspendAsking: who owes the answer owes none any more; the thread goes on without one.
func TestSuspendAsking(t *testing.T) {
	reply := say(api.CallReply, 0, 0)
	for _, c := range []struct {
		code  string
		state int
	}{{say(api.CallCall, 0, 7), api.Asking}, {"", api.Faulted}} {
		k := boot(t, system("cap x0 6 t1 w\ncap t1 2 e w\n"+start(0, 1), say(api.CallGet, 0)+say(api.CallSuspend, 6)+reply+say(api.CallResume, 6), c.code))
		until(t, k, 10, api.CallGet)
		stand(t, k, 20, c.state, api.None, api.None, 10)
		stand(t, k, 10, api.Ready, api.None, 20, api.None)
		same(t, "Tick", ticks(k, lines(1)), made(10, api.CallSuspend, api.OK))
		stand(t, k, 20, api.Idle, api.None, api.None, api.None)
		stand(t, k, 10, api.Ready, api.None, api.None, api.None)
		same(t, "Tick", ticks(k, lines(2)), made(10, api.CallReply, api.ErrState))
		same(t, "Tick", ticks(k, lines(1)), made(10, api.CallResume, api.OK))
		stand(t, k, 20, api.Ready, api.None, api.None, api.None)
	}
}

// TestSuspendForgotten: one that waits for nobody's answer any more goes on by Suspend and Resume.
func TestSuspendForgotten(t *testing.T) {
	get := say(api.CallGet, 0)
	k := boot(t, system("cap x0 6 t1 w\n"+start(0, 2, 1), get+get+say(api.CallSuspend, 6)+say(api.CallResume, 6)+say(api.CallReply, 0, 5), say(api.CallCall, 0, 1)+set(20, 3), say(api.CallCall, 0, 2)))
	for _, did := range rest(t, k) {
		same(t, "the error", did.Err, api.OK)
	}
	same(t, "it has gone on", thread(t, k, 20).Context.Regs[20], 3)
	regs(t, k, 30, 0, 5)
}

// TestSuspendKeepsTheCaller: who waits for the answer of a thread that is suspended waits on.
func TestSuspendKeepsTheCaller(t *testing.T) {
	code := say(api.CallGet, 0) + say(api.CallSuspend, 6) + set(20, 3) + say(api.CallReply, 0, 5)
	k := boot(t, system("cap x0 6 t0 w\ncap x2 6 t0 w\nstart t0 0 2 ready 0x1000\nstart t1 0 1 ready 0x1000\nstart t2 0 0 ready 0x1000\n", code, say(api.CallCall, 0, 7), say(api.CallResume, 6)))
	until(t, k, 10, api.CallSuspend)
	stand(t, k, 10, api.Idle, api.None, 20, api.None)
	stand(t, k, 20, api.Asking, api.None, api.None, 10)
	regs(t, k, 10, 0) // its own register 10 says that it suspended itself
	rest(t, k)
	same(t, "it has gone on", thread(t, k, 10).Context.Regs[20], 3)
	regs(t, k, 20, 0, 5)
}

// TestSuspendFaulting: resumed, it does once more what it trapped for.
func TestSuspendFaulting(t *testing.T) {
	k := boot(t, system("cap x0 6 t1 w\ncap t1 2 f w\n"+start(0, 1), say(api.CallSuspend, 6)+say(api.CallResume, 6), set(20, 3)))
	rest(t, k)
	stand(t, k, 20, api.Faulting, 62, api.None, api.None)
	line(t, k, 62, 20)
}
