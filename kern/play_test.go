package kern_test

import (
	"fmt"
	"testing"

	"vault/api"
	"vault/kern"
)

// step: a call, and what is wanted of it.
type step struct {
	call int
	want api.Errno
	args []int
}

func does(call int, want api.Errno, args ...int) step {
	return step{call, want, args}
}

// What stands in the box of the thread that plays; the slots from 13 on are empty.
const (
	inEnd = iota
	inBell
	inBadged // an end, with a badge
	inTable  // mapped
	inCode   // a frame, mapped
	inData   // a frame, mapped
	inUntyped
	inRoot
	inThread // another one, which is Idle
	inIrq
	inPort
	inBox // its own
	inLarge
	free
)

// The numbers of these things, and of the thread that plays.
const (
	ofRoot    = 1
	ofTable   = 2
	ofCode    = 3
	ofData    = 4
	ofBox     = 5
	player    = 6
	ofThread  = 7
	ofEnd     = 8
	ofBell    = 9
	ofBadged  = 10
	ofIrq     = 3
	ofPort    = 4
	ofUntyped = 32 + 3*256 // pages 32 to 39
	ofLarge   = 64 + 6*256 // pages 64 to 127
)

const playPages = 128

// stage: a text with one thread that plays: of domain 2, with priority 3; the other one is of that domain, too, and has some registers.
func stage(more, code string) string {
	return "pages 128\nturn 2 1000\nroot r 1\ntable a 2\nframe c 3\nframe d 4\nbox x 5 64\nthread t 6\nthread h 7\nend e 8\nbell b 9\nend f 10\nirq i 3\nport p 4\nuntyped u 32 3\nuntyped v 64 6\n" +
		"cap x 0 e rwg\ncap x 1 b rwg\ncap x 2 f rw badge 7\ncap x 3 a rw\ncap x 4 c rx\ncap x 5 d rw\ncap x 6 u rwg\ncap x 7 r rw\ncap x 8 h rw\ncap x 9 i rw\ncap x 10 p rw\ncap x 11 x rw guard 0 26\ncap x 12 v w\n" +
		"cap t 0 x - guard 0 26\ncap t 1 r -\nmap x 3 r 0 -\nmap x 4 r 0x1000 rx\nmap x 5 r 0x2000 rw\ncode c 0\n" + code + "ebreak\nstop\nstart t 2 3 ready 0x1000\nstart h 2 0 idle 64 x2 9 x5 55 x10 8\n" + more
}

// lines of a call, with any numbers.
func speak(s step) string {
	t := ""
	for i, n := range s.args {
		t += fmt.Sprintf("li x%d, %d\n", 10+i, n)
	}
	return t + fmt.Sprintf("li x17, %d\necall\n", s.call)
}

// play: a kernel whose thread has made these calls, each as it is wanted. What is refused changes nothing but that thread's register 10 and Pc, and what is left of its slice.
func play(t *testing.T, more string, steps ...step) *kern.Kernel {
	t.Helper()
	code := ""
	for _, s := range steps {
		code += speak(s)
	}
	k := boot(t, stage(more, code))
	for i, s := range steps {
		do(t, k, fmt.Sprintf("call %d, %v", i, s), s)
	}
	return k
}

// do: ticks, till the thread that plays has made its next call.
func do(t *testing.T, k *kern.Kernel, what string, s step) {
	t.Helper()
	was := ""
	if s.want != api.OK {
		was = others(k)
	}
	for range 20 {
		context := thread(t, k, player).Context
		did := k.Tick()
		if did.Thread != player {
			t.Fatalf("%s: another one runs: %v", what, did)
		}
		if !did.Event.Trap {
			continue
		}
		same(t, what, did, made(player, s.call, s.want))
		if s.want != api.OK {
			context.Regs[10], context.Pc = uint32(s.want), context.Pc+4
			same(t, what+": registers", thread(t, k, player).Context, context)
			if others(k) != was {
				t.Errorf("%s: it changed something", what)
			}
		}
		return
	}
	t.Fatalf("%s: no call is made", what)
}

// others: all but the registers of the thread that plays, and what is left of its slice.
func others(k *kern.Kernel) string {
	l := k.Threads()
	for i := range l {
		if l[i].Num == player {
			l[i].Left, l[i].Context = 0, api.Context{}
		}
	}
	return fmt.Sprintln(l) + things(k, playPages)
}

// has: what a slot of the player's box holds, and the slot of that box from which it comes (None: none).
func has(t *testing.T, k *kern.Kernel, index int, c api.Cap, from int) {
	t.Helper()
	want := api.Entry{At: api.Slot{Box: ofBox, Index: index}, Cap: c, From: api.Slot{Box: ofBox, Index: from}}
	if from == api.None {
		want.From = noSlot
	}
	same(t, fmt.Sprintf("slot %d", index), held(k, ofBox, index), want)
}

func empty(t *testing.T, k *kern.Kernel, box int, indices ...int) {
	t.Helper()
	for _, i := range indices {
		same(t, fmt.Sprintf("slot %d of %d", i, box), held(k, box, i), api.Entry{})
	}
}

// capOf: a capability without a badge, a guard and a mapping.
func capOf(kind, num, rights int) api.Cap {
	return api.Cap{Object: api.Object{Kind: kind, Num: num}, Rights: rights}
}

// isObject: whether an object lies in memory.
func isObject(t *testing.T, k *kern.Kernel, kind, num int, want bool) {
	t.Helper()
	there := false
	for _, o := range k.Objects() {
		there = there || o == api.Object{Kind: kind, Num: num}
	}
	same(t, fmt.Sprintf("object %d of kind %d is there", num, kind), there, want)
}

// isNought: all bytes of a page are 0.
func isNought(t *testing.T, k *kern.Kernel, page int) {
	t.Helper()
	s, e := k.Peek(page*api.PageLen, api.PageLen)
	for i := range s {
		if s[i] != 0 {
			t.Errorf("byte %d of page %d is %d", i, page, s[i])
			return
		}
	}
	same(t, "Peek", e, api.OK)
}

// mappings: what a root maps.
func mappings(t *testing.T, k *kern.Kernel, root int, want ...api.Mapping) {
	t.Helper()
	l, e := k.Mappings(root)
	if e != api.OK || fmt.Sprint(l) != fmt.Sprint(want) {
		t.Errorf("Mappings(%d): %v, %d, wanted %v", root, l, e, want)
	}
}

// atFirst: what the player's root maps at first.
var atFirst = []api.Mapping{{Va: 0x1000, Page: ofCode, Rights: 5}, {Va: 0x2000, Page: ofData, Rights: 3}}
