package kern_test

import (
	"fmt"
	"testing"

	"vault/api"
)

// TestFirstWordOfCalls: the errors of what register 10 names, in all calls from 12 on that name a thing by it.
func TestFirstWordOfCalls(t *testing.T) {
	calls := map[int]struct{ in, kind, right int }{
		api.CallRetype: {inUntyped, api.Untyped, api.Write}, api.CallTable: {inTable, api.Table, api.Write},
		api.CallSetup: {inThread, api.Thread, api.Write}, api.CallRegs: {inThread, api.Thread, api.Write}, api.CallResume: {inThread, api.Thread, api.Write}, api.CallSuspend: {inThread, api.Thread, api.Write}, api.CallPrio: {inThread, api.Thread, api.Write},
		api.CallBind: {inIrq, api.Irq, api.Write}, api.CallAck: {inIrq, api.Irq, api.Write}, api.CallPut: {inPort, api.Port, api.Write}, api.CallTake: {inPort, api.Port, api.Read},
	}
	var steps []step
	for call := api.CallRetype; call <= api.LastCall; call++ {
		steps = append(steps, does(call, api.ErrSlot, 64, 64, 64, 64, 64), does(call, api.ErrSlot, none, 64, 64, 64, 64))
		if call == api.CallCopy || call == api.CallMint || call == api.CallMove {
			continue // where an empty slot is wanted
		}
		steps = append(steps, does(call, api.ErrEmpty, free, 64, 64, 64, 64))
		if c, ok := calls[call]; ok {
			steps = append(steps, does(call, api.ErrKind, inEnd, 64, 64, 64, 64))
			play(t, "", does(api.CallCopy, api.OK, free, c.in, 7-c.right), does(call, api.ErrRight, free, 64, 64, 64, 64))
		}
	}
	steps = append(steps, does(api.CallMap, api.ErrKind, inEnd, 64, 64, 64), does(api.CallUnmap, api.ErrKind, inEnd))
	play(t, "", steps...)
	// without a space nothing is named
	k := boot(t, "pages 8\nturn 0 9\nroot r 1\ntable a 2\nframe c 3\nbox x 4 2\nthread t 5\ncap x 0 a rw\ncap x 1 c rx\ncap t 1 r -\nmap x 0 r 0 -\nmap x 1 r 0x1000 rx\ncode c 0\n"+say(api.CallDelete, 0)+"stop\nstart t 0 0 ready 0x1000\n")
	same(t, "Tick", ticks(k, lines(1)), made(5, api.CallDelete, api.ErrEmpty))
}

func TestRetypeRefused(t *testing.T) {
	r := api.CallRetype
	huge := 1 << 31
	play(t, "",
		// the address, and then the kind
		does(r, api.ErrSlot, inUntyped, 9, 3, 64, 0),
		does(r, api.ErrKind, inUntyped, 9, 3, free, 0),
		does(r, api.ErrKind, inUntyped, 10, 0, free, 1),
		does(r, api.ErrKind, inUntyped, none, 0, free, 1),
		does(r, api.ErrKind, inUntyped, huge|api.Frame, 0, free, 1),
		// a box's size
		does(r, api.ErrArg, inUntyped, api.Box, 0, free, 0),
		does(r, api.ErrArg, inUntyped, api.Box, 3, free, 0),
		does(r, api.ErrArg, inUntyped, api.Box, 65, free, 1),
		does(r, api.ErrArg, inUntyped, api.Box, 128, free, 1),
		does(r, api.ErrArg, inUntyped, api.Box, huge, free, 1),
		// the count
		does(r, api.ErrSlot, inUntyped, api.Frame, 9, inEnd, 0),
		does(r, api.ErrSlot, inUntyped, 0, 0, 63, 2),
		does(r, api.ErrSlot, inUntyped, api.Frame, 0, inEnd, 65),
		does(r, api.ErrSlot, inUntyped, api.Frame, 0, 63, huge),
		does(r, api.ErrSlot, inUntyped, api.Frame, 0, 63, none),
		// the slots
		does(r, api.ErrFull, inUntyped, api.Frame, 9, inEnd, 64),
		does(r, api.ErrFull, inUntyped, 0, 0, inLarge, 1),
		does(r, api.ErrFull, inUntyped, api.Frame, 1, inLarge, 2),
		// Give's
		does(r, api.ErrKind, inUntyped, 0, 9, free, 1),
		does(r, api.ErrArg, inUntyped, api.Frame, 1, free, 9),
		does(r, api.ErrArg, inUntyped, api.Bell, huge, free, 1),
		does(r, api.ErrArg, inUntyped, api.Untyped, 9, free, 1),
		does(r, api.ErrArg, inUntyped, api.Untyped, none, free, 1),
		does(r, api.ErrRoom, inUntyped, api.Frame, 0, free, 9),
		does(r, api.ErrRoom, inUntyped, api.Untyped, 3, free, 1),
		does(r, api.ErrRoom, inUntyped, api.Untyped, 2, free, 3))
}

// TestRetypeKinds: what comes has all three rights, and comes from the untyped's slot; and is as the chapter says.
func TestRetypeKinds(t *testing.T) {
	for kind := api.Frame; kind <= api.Bell; kind++ {
		size := 0
		if kind == api.Box {
			size = 8
		}
		k := play(t, "", does(api.CallRetype, api.OK, inUntyped, kind, size, 62, 2))
		regs(t, k, player, 0, uint32(kind), uint32(size), 62, 2)
		has(t, k, 62, capOf(kind, 32, 7), inUntyped)
		has(t, k, 63, capOf(kind, 33, 7), inUntyped)
		empty(t, k, ofBox, free, 61)
		isObject(t, k, kind, 32, true)
		isObject(t, k, kind, 33, true)
		isObject(t, k, kind, 34, false)
		mark, _ := k.Mark(ofUntyped)
		same(t, "Mark", mark, 2)
		wantSize := map[int]int{api.Box: 8, api.Thread: 4}[kind]
		n, _ := k.Size(33)
		same(t, "Size", n, wantSize)
		_, e := k.Line(33)
		same(t, "it has a line", e == api.OK, kind == api.End || kind == api.Bell)
		_, e = k.Word(33)
		same(t, "it has a word", e == api.OK, kind == api.Bell)
		same(t, "threads", len(k.Threads()), 2+wantSize%8/4*2)
		if kind == api.Thread {
			same(t, "the thread", thread(t, k, 33), api.ThreadLook{Num: 33, Domain: 2, At: api.None, Caller: api.None, Waits: api.None})
		}
	}
}

func TestRetypeBoxes(t *testing.T) {
	var steps []step
	for i, size := range []int{1, 2, 4, 8, 16, 32, 64} {
		steps = append(steps, does(api.CallRetype, api.OK, inUntyped, api.Box, size, free+i, 1))
	}
	k := play(t, "", steps...)
	for i := range steps {
		n, e := k.Size(32 + i)
		same(t, "Size", []any{n, e}, []any{1 << i, api.OK})
		has(t, k, free+i, capOf(api.Box, 32+i, 7), inUntyped)
	}
}

// TestRetypeUntypeds: untypeds lie at multiples of their pages; out of these more is made.
func TestRetypeUntypeds(t *testing.T) {
	k := play(t, "",
		does(api.CallRetype, api.OK, inUntyped, api.Frame, 0, 20, 1),
		does(api.CallRetype, api.OK, inUntyped, api.Untyped, 1, 21, 2),
		does(api.CallRetype, api.OK, inUntyped, api.Untyped, 0, 23, 1),
		does(api.CallRetype, api.OK, 22, api.End, 0, 24, 2),
		does(api.CallRetype, api.ErrRoom, 22, api.End, 0, 26, 1),
		does(api.CallRetype, api.OK, 23, api.Table, 0, 26, 1),
		does(api.CallRetype, api.ErrRoom, 23, api.Untyped, 0, 27, 1),
		does(api.CallRetype, api.OK, inLarge, api.Frame, 0, 27, 37),
		does(api.CallDelete, api.OK, 27),
		does(api.CallRetype, api.ErrRoom, inLarge, api.Untyped, 5, 27, 1))
	has(t, k, 20, capOf(api.Frame, 32, 7), inUntyped)
	has(t, k, 21, capOf(api.Untyped, 34+256, 7), inUntyped)
	has(t, k, 22, capOf(api.Untyped, 36+256, 7), inUntyped)
	has(t, k, 23, capOf(api.Untyped, 38, 7), inUntyped)
	has(t, k, 24, capOf(api.End, 36, 7), 22)
	has(t, k, 25, capOf(api.End, 37, 7), 22)
	has(t, k, 26, capOf(api.Table, 38, 7), 23)
	has(t, k, 63, capOf(api.Frame, 64+36, 7), inLarge)
	for num, want := range map[int]int{ofUntyped: 7, 34 + 256: 0, 36 + 256: 2, 38: 1, ofLarge: 37} {
		mark, e := k.Mark(num)
		same(t, fmt.Sprintf("Mark(%d)", num), []any{mark, e}, []any{want, api.OK})
	}
}

// TestRetypeInAnotherBox: the slots are those of the box to which the address leads.
func TestRetypeInAnotherBox(t *testing.T) {
	// w's addresses: two bits that are 0, two that are an index in y; then by slot 0 to z, or by slot 1 to y itself
	more := "box y 11 4\nbox z 12 2\nthread w 13\ncap y 0 z - guard 0 27\ncap y 1 y - guard 0 26\ncap y 2 u w\ncap w 0 y - guard 0 2\ncap w 1 r -\nstart w 2 4 ready 0x1000\n"
	for _, c := range []struct {
		into, count int
		want        api.Errno
	}{{0, 2, api.OK}, {1, 1, api.OK}, {1, 2, api.ErrSlot}, {0, 3, api.ErrSlot}} {
		k := boot(t, stage(more, speak(does(api.CallRetype, api.OK, 1<<28|2, api.Bell, 0, c.into, c.count))))
		for range 20 {
			if did := k.Tick(); did.Event.Trap {
				same(t, "Tick", did, made(13, api.CallRetype, c.want))
				break
			}
		}
		if c.want == api.OK {
			want := api.Entry{At: api.Slot{Box: 12, Index: 1}, Cap: capOf(api.Bell, 31+c.count, 7), From: api.Slot{Box: 11, Index: 2}}
			same(t, "what came", held(k, 12, 1), want)
		}
	}
}

// TestRetypeOnceMore: when all is gone the pages are given once more, and nothing is left in them.
func TestRetypeOnceMore(t *testing.T) {
	steps := []step{
		does(api.CallRetype, api.OK, inUntyped, api.Frame, 0, 20, 8),
		does(api.CallRetype, api.ErrRoom, inUntyped, api.Frame, 0, 30, 1),
		does(api.CallRevoke, api.OK, inUntyped),
	}
	k := play(t, "", append(steps, does(api.CallRetype, api.OK, inUntyped, api.Thread, 0, 30, 8))...)
	has(t, k, 30, capOf(api.Thread, 32, 7), inUntyped)
	has(t, k, 37, capOf(api.Thread, 39, 7), inUntyped)
	empty(t, k, ofBox, 20, 27)
	// while one is there, none of the others' pages is given
	k = play(t, "", steps[0], does(api.CallDelete, api.OK, 20), does(api.CallDelete, api.OK, 27), does(api.CallRetype, api.ErrRoom, inUntyped, api.Frame, 0, 20, 1))
	mark, _ := k.Mark(ofUntyped)
	same(t, "Mark", mark, 8)
	k = play(t, "", steps...)
	mark, _ = k.Mark(ofUntyped)
	same(t, "Mark behind Revoke", mark, 8)
}

func TestCopyRefused(t *testing.T) {
	for _, call := range []int{api.CallCopy, api.CallMint, api.CallMove} {
		play(t, "",
			does(call, api.ErrSlot, 64, 64, 7),
			does(call, api.ErrFull, inEnd, 64, 7),
			does(call, api.ErrFull, inEnd, inEnd, 7),
			does(call, api.ErrSlot, free, 64, 7),
			does(call, api.ErrSlot, free, none, 7),
			does(call, api.ErrEmpty, free, free, 7),
			does(call, api.ErrEmpty, free, free+1, 7))
	}
}

func TestCopy(t *testing.T) {
	for rights := range 16 {
		k := play(t, "", does(api.CallCopy, api.OK, 20, inData, rights), does(api.CallCopy, api.OK, 21, inEnd, rights-1<<31))
		has(t, k, 20, capOf(api.Frame, ofData, rights&3), inData)
		has(t, k, 21, capOf(api.End, ofEnd, rights&7), inEnd)
		regs(t, k, player, 0, inEnd)
	}
	// all else stays, but that it is mapped nowhere
	k := play(t, "", does(api.CallCopy, api.OK, 20, inBadged, 7), does(api.CallCopy, api.OK, 21, inBox, 7), does(api.CallCopy, api.OK, 22, inTable, 7), does(api.CallCopy, api.OK, 23, 22, 5), does(api.CallCopy, api.OK, 24, inUntyped, 7), does(api.CallRetype, api.OK, 24, api.Bell, 0, 25, 1))
	badged := capOf(api.End, ofBadged, 3)
	badged.Badge = 7
	has(t, k, 20, badged, inBadged)
	box := capOf(api.Box, ofBox, 3)
	box.GuardBits = 26
	has(t, k, 21, box, inBox)
	has(t, k, 22, capOf(api.Table, ofTable, 3), inTable)
	has(t, k, 23, capOf(api.Table, ofTable, 1), 22)
	has(t, k, 25, capOf(api.Bell, 32, 7), 24)
	table := capOf(api.Table, ofTable, 3)
	table.Root = ofRoot + 1
	has(t, k, inTable, table, api.None)
	mappings(t, k, ofRoot, atFirst...)
}

func TestMint(t *testing.T) {
	for in, num := range map[int]int{inEnd: ofEnd, inBell: ofBell} {
		kind := api.End + in - inEnd
		k := play(t, "",
			does(api.CallMint, api.OK, 20, in, 6, none, 99),
			does(api.CallMint, api.OK, 21, in, 15, 0, 99),
			does(api.CallMint, api.OK, 22, 21, 8, 5),
			does(api.CallMint, api.ErrState, 23, 22, 7, 5),
			does(api.CallMint, api.ErrState, 23, 20, 7, 0),
			does(api.CallCopy, api.OK, 23, 20, 7))
		want := capOf(kind, num, 6)
		want.Badge = 4294967295
		has(t, k, 20, want, in)
		has(t, k, 23, want, 20)
		has(t, k, 21, capOf(kind, num, 7), in)
		want = capOf(kind, num, 0)
		want.Badge = 5
		has(t, k, 22, want, 21)
	}
	var steps []step
	for _, in := range []int{inTable, inCode, inUntyped, inRoot, inThread, inIrq, inPort} {
		steps = append(steps, does(api.CallMint, api.ErrKind, 20, in, 7, 1, 33))
	}
	play(t, "", steps...)
	play(t, "", does(api.CallMint, api.ErrState, 20, inBadged, 7, 7))
}

func TestMintBoxes(t *testing.T) {
	for _, c := range []struct {
		guard, bits int
		want        api.Errno
	}{
		{0, 0, api.OK}, {1, 0, api.ErrArg}, {1, 1, api.OK}, {2, 1, api.ErrArg}, {3, 2, api.OK}, {4, 2, api.ErrArg}, {0, 32, api.OK}, {0, 33, api.ErrArg}, {0, 64, api.ErrArg}, {0, none, api.ErrArg},
		{none, 32, api.OK}, {none, 31, api.ErrArg}, {1<<31 - 1, 31, api.OK}, {1 << 31, 31, api.ErrArg}, {1 << 31, 32, api.OK}, {0, -1 << 31, api.ErrArg}, {5, 20, api.OK},
	} {
		k := play(t, "", does(api.CallMint, c.want, 20, inBox, 1, c.guard, c.bits))
		if c.want != api.OK {
			empty(t, k, ofBox, 20)
			continue
		}
		want := capOf(api.Box, ofBox, 1)
		want.Guard, want.GuardBits = uint32(c.guard), c.bits
		has(t, k, 20, want, inBox)
	}
}

// TestMove: it goes with where it comes from, with what comes from it, and with where it is mapped.
func TestMove(t *testing.T) {
	k := play(t, "",
		does(api.CallCopy, api.OK, 20, inData, 7),
		does(api.CallCopy, api.OK, 21, 20, 1),
		does(api.CallMove, api.OK, 22, 20, 0),
		does(api.CallMove, api.OK, 23, inData, 0),
		does(api.CallMove, api.ErrEmpty, 24, inData, 0),
		does(api.CallUnmap, api.ErrState, 22))
	data := capOf(api.Frame, ofData, 3)
	data.Root, data.Va = ofRoot+1, 0x2000
	has(t, k, 23, data, api.None)
	has(t, k, 22, capOf(api.Frame, ofData, 3), 23)
	has(t, k, 21, capOf(api.Frame, ofData, 1), 22)
	empty(t, k, ofBox, 20, inData)
	mappings(t, k, ofRoot, atFirst...)
	k = play(t, "", does(api.CallMove, api.OK, 23, inData, 0), does(api.CallUnmap, api.OK, 23))
	mappings(t, k, ofRoot, atFirst[0])
}

// TestDelete: what came from it comes from where it came; the object goes with its last capability alone.
func TestDelete(t *testing.T) {
	steps := []step{
		does(api.CallCopy, api.OK, 20, inEnd, 7),
		does(api.CallCopy, api.OK, 21, 20, 6),
		does(api.CallCopy, api.OK, 22, 20, 4),
		does(api.CallDelete, api.OK, 20),
	}
	k := play(t, "", steps...)
	empty(t, k, ofBox, 20)
	has(t, k, 21, capOf(api.End, ofEnd, 6), inEnd)
	has(t, k, 22, capOf(api.End, ofEnd, 4), inEnd)
	steps = append(steps, does(api.CallDelete, api.OK, inEnd), does(api.CallDelete, api.OK, 21))
	k = play(t, "", steps...)
	has(t, k, 22, capOf(api.End, ofEnd, 4), api.None)
	isObject(t, k, api.End, ofEnd, true)
	line(t, k, ofEnd)
	k = play(t, "", append(steps, does(api.CallDelete, api.OK, 22))...)
	isObject(t, k, api.End, ofEnd, false)
	_, e := k.Line(ofEnd)
	same(t, "Line", e, api.ErrName)
}

// TestRevoke: all that is below goes, and nothing else.
func TestRevoke(t *testing.T) {
	steps := []step{
		does(api.CallCopy, api.OK, 20, inBell, 7),
		does(api.CallCopy, api.OK, 21, 20, 7),
		does(api.CallCopy, api.OK, 22, 21, 7),
		does(api.CallCopy, api.OK, 23, 20, 7),
		does(api.CallCopy, api.OK, 24, inBell, 7),
		does(api.CallRevoke, api.OK, 21),
	}
	k := play(t, "", steps...)
	empty(t, k, ofBox, 22)
	has(t, k, 21, capOf(api.Bell, ofBell, 7), 20)
	has(t, k, 23, capOf(api.Bell, ofBell, 7), 20)
	k = play(t, "", append(steps, does(api.CallRevoke, api.OK, 20))...)
	empty(t, k, ofBox, 21, 22, 23)
	has(t, k, 20, capOf(api.Bell, ofBell, 7), inBell)
	has(t, k, 24, capOf(api.Bell, ofBell, 7), inBell)
	k = play(t, "", append(steps, does(api.CallRevoke, api.OK, inBell), does(api.CallRevoke, api.OK, inBell))...)
	empty(t, k, ofBox, 20, 21, 22, 23, 24)
	has(t, k, inBell, capOf(api.Bell, ofBell, 7), api.None)
	isObject(t, k, api.Bell, ofBell, true)
}

// TestRevokeUntyped: with it all goes that was made of it, and of that, wherever it went.
func TestRevokeUntyped(t *testing.T) {
	k := play(t, "",
		does(api.CallRetype, api.OK, inUntyped, api.Untyped, 2, 20, 1),
		does(api.CallRetype, api.OK, 20, api.Thread, 0, 21, 1),
		does(api.CallRetype, api.OK, 20, api.End, 0, 22, 1),
		does(api.CallMint, api.OK, 23, 22, 7, 9),
		does(api.CallSetup, api.OK, inThread, none, none, 23),
		does(api.CallCopy, api.OK, 24, 20, 7),
		does(api.CallRetype, api.OK, 24, api.Box, 4, 25, 1),
		does(api.CallRevoke, api.OK, inUntyped))
	empty(t, k, ofBox, 20, 21, 22, 23, 24, 25)
	empty(t, k, ofThread, 2)
	for _, o := range k.Objects() {
		if o.Num%256 >= 32 && o.Num%256 < 40 && o.Num != ofUntyped {
			t.Errorf("it is there still: %v", o)
		}
	}
	same(t, "threads", len(k.Threads()), 2)
	has(t, k, inUntyped, capOf(api.Untyped, ofUntyped, 7), api.None)
	has(t, k, inLarge, capOf(api.Untyped, ofLarge, 2), api.None)
}
