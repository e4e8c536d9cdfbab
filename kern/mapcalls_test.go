package kern_test

import (
	"fmt"
	"testing"

	"vault/api"
	"vault/kern"
)

func TestTable(t *testing.T) {
	two := does(api.CallRetype, api.OK, inUntyped, api.Table, 0, 20, 2)
	k := play(t, "", two,
		// the root
		does(api.CallTable, api.ErrSlot, 20, 64, 0),
		does(api.CallTable, api.ErrEmpty, 20, free, 0),
		does(api.CallTable, api.ErrKind, 20, inTable, 0),
		does(api.CallCopy, api.OK, 30, inRoot, 5),
		does(api.CallTable, api.ErrRight, 20, 30, 0),
		// what is mapped is not mapped once more, not even by another capability
		does(api.CallTable, api.ErrState, inTable, inRoot, 0x400000),
		does(api.CallCopy, api.OK, 31, inTable, 7),
		does(api.CallTable, api.ErrState, 31, inRoot, 0x400000),
		does(api.CallTable, api.ErrTwice, 20, inRoot, 0x3fffff),
		does(api.CallTable, api.OK, 20, inRoot, 0x7fffff),
		does(api.CallTable, api.ErrTwice, 21, inRoot, 0x400000),
		does(api.CallTable, api.OK, 21, inRoot, none),
		does(api.CallTable, api.ErrState, 21, inRoot, 0))
	for index, va := range map[int]uint32{20: 0x400000, 21: 0xffc00000} {
		want := capOf(api.Table, 12+index, 7)
		want.Root, want.Va = ofRoot+1, va
		has(t, k, index, want, inUntyped)
	}
	mappings(t, k, ofRoot, atFirst...)
	// a table that was unmapped may be mapped by another one
	k = play(t, "", two, does(api.CallTable, api.OK, 20, inRoot, 0x400000), does(api.CallCopy, api.OK, 22, 20, 6), does(api.CallUnmap, api.OK, 20), does(api.CallTable, api.OK, 22, inRoot, 0x800000), does(api.CallTable, api.ErrState, 20, inRoot, 0x400000))
	want := capOf(api.Table, 32, 6)
	want.Root, want.Va = ofRoot+1, 0x800000
	has(t, k, 22, want, 20)
	has(t, k, 20, capOf(api.Table, 32, 7), inUntyped)
}

func TestMap(t *testing.T) {
	two := does(api.CallRetype, api.OK, inUntyped, api.Frame, 0, 20, 2)
	k := play(t, "", two,
		does(api.CallMap, api.ErrSlot, 20, 64, 0x3000, 1),
		does(api.CallMap, api.ErrEmpty, 20, free, 0x3000, 1),
		does(api.CallMap, api.ErrKind, 20, inTable, 0x3000, 1),
		does(api.CallCopy, api.OK, 30, inRoot, 5),
		does(api.CallMap, api.ErrRight, 20, 30, 0x3000, 1),
		does(api.CallMap, api.ErrKind, inTable, inRoot, 0x3000, 1),
		does(api.CallMap, api.ErrState, inData, inRoot, 0x3000, 4),
		does(api.CallCopy, api.OK, 31, 20, 1),
		does(api.CallMap, api.ErrRight, 31, inRoot, 0x3001, 3),
		does(api.CallMap, api.ErrArg, 31, inRoot, 0x3001, 8),
		does(api.CallMap, api.ErrRight, 20, inRoot, 0x400000, 2),
		does(api.CallMap, api.ErrRight, 20, inRoot, 0x400000, 8),
		does(api.CallMap, api.ErrTable, 20, inRoot, 0x400000, 9),
		does(api.CallMap, api.ErrTwice, 20, inRoot, 0x2000, 1),
		does(api.CallMap, api.OK, 20, inRoot, 0x3000, 15),
		does(api.CallMap, api.ErrState, 20, inRoot, 0x4000, 7),
		does(api.CallMap, api.OK, 31, inRoot, 0x3ff000, -7), // 1, modulo 8
		does(api.CallCopy, api.OK, 32, 20, 0),
		does(api.CallMap, api.ErrRight, 32, inRoot, 0x4000, 1),
		does(api.CallMap, api.OK, 21, inRoot, 0, 5))
	mappings(t, k, ofRoot, api.Mapping{Va: 0, Page: 33, Rights: 5}, atFirst[0], atFirst[1], api.Mapping{Va: 0x3000, Page: 32, Rights: 7}, api.Mapping{Va: 0x3ff000, Page: 32, Rights: 1})
	want := capOf(api.Frame, 32, 1)
	want.Root, want.Va = ofRoot+1, 0x3ff000
	has(t, k, 31, want, 20)
	want = capOf(api.Frame, 33, 7)
	want.Root = ofRoot + 1
	has(t, k, 21, want, inUntyped)
}

// TestFrameWithoutRights: a frame is wanted with no right but those with which it is mapped.
func TestFrameWithoutRights(t *testing.T) {
	k := play(t, "", does(api.CallCopy, api.OK, 20, inCode, 4), does(api.CallMap, api.OK, 20, inRoot, 0x3000, 4))
	mappings(t, k, ofRoot, atFirst[0], atFirst[1], api.Mapping{Va: 0x3000, Page: ofCode, Rights: 4})
}

// TestMappedIsUsed: what a thread maps it may use at once; what it unmaps no more.
func TestMappedIsUsed(t *testing.T) {
	code := speak(does(api.CallRetype, api.OK, inUntyped, api.Frame, 0, 20, 1)) + speak(does(api.CallMap, api.OK, 20, inRoot, 0x3000, 3)) + "li x5, 0x3000\nli x6, 77\nsw x6, 4(x5)\n" + speak(does(api.CallUnmap, api.OK, 20)) + "lw x7, 4(x5)\n"
	k := boot(t, stage("", code))
	for _, did := range rest(t, k) {
		same(t, "the error", did.Err, api.OK)
	}
	s, _ := k.Peek(32*api.PageLen+4, 2)
	same(t, "bytes", s, "M\x00")
	x := thread(t, k, player)
	same(t, "the thread", []any{x.State, x.Context.Regs[7]}, []any{api.Idle, uint32(0)})
}

func TestUnmap(t *testing.T) {
	k := play(t, "",
		does(api.CallUnmap, api.ErrKind, inRoot),
		does(api.CallUnmap, api.ErrKind, inUntyped),
		does(api.CallCopy, api.OK, 20, inData, 0),
		does(api.CallUnmap, api.ErrState, 20),
		does(api.CallCopy, api.OK, 21, inTable, 7),
		does(api.CallUnmap, api.ErrState, 21),
		does(api.CallUnmap, api.OK, inData),
		does(api.CallUnmap, api.ErrState, inData))
	has(t, k, inData, capOf(api.Frame, ofData, 3), api.None)
	mappings(t, k, ofRoot, atFirst[0])
}

// TestUnmapTable: the frames of its 4194304 bytes go with it, those of others and of other roots stay.
func TestUnmapTable(t *testing.T) {
	steps := []step{
		does(api.CallRetype, api.OK, inUntyped, api.Table, 0, 20, 3),
		does(api.CallRetype, api.OK, inUntyped, api.Root, 0, 23, 1),
		does(api.CallRetype, api.OK, inUntyped, api.Frame, 0, 24, 1),
		does(api.CallTable, api.OK, 20, inRoot, 0x400000),
		does(api.CallTable, api.OK, 21, inRoot, 0x800000),
		does(api.CallTable, api.OK, 22, 23, 0x400000),
	}
	for i, x := range []struct{ root, va int }{{inRoot, 0x400000}, {inRoot, 0x401000}, {inRoot, 0x7ff000}, {inRoot, 0x800000}, {23, 0x401000}, {inRoot, 0x3ff000}} {
		steps = append(steps, does(api.CallCopy, api.OK, 30+i, 24, 7), does(api.CallMap, api.OK, 30+i, x.root, x.va, 3))
	}
	k := play(t, "", append(steps, does(api.CallUnmap, api.OK, 20))...)
	stay := []api.Mapping{atFirst[0], atFirst[1], {Va: 0x3ff000, Page: 36, Rights: 3}, {Va: 0x800000, Page: 36, Rights: 3}}
	mappings(t, k, ofRoot, stay...)
	mappings(t, k, 35, api.Mapping{Va: 0x401000, Page: 36, Rights: 3})
	for index := range 3 {
		has(t, k, 30+index, capOf(api.Frame, 36, 7), 24)
	}
	has(t, k, 20, capOf(api.Table, 32, 7), inUntyped)
	isNought(t, k, 32)
	// and so it is if it goes, by whichever way
	for _, s := range []step{does(api.CallDelete, api.OK, 20), does(api.CallRevoke, api.OK, inUntyped)} {
		k = play(t, "", append(steps, s)...)
		isNought(t, k, 32)
		if s.call == api.CallDelete {
			mappings(t, k, ofRoot, stay...)
		} else {
			mappings(t, k, ofRoot, atFirst...)
		}
	}
	// so that it may be mapped elsewhere, with other frames in it
	k = play(t, "", append(steps, does(api.CallUnmap, api.OK, 20), does(api.CallTable, api.OK, 20, inRoot, 0xc00000), does(api.CallMap, api.OK, 30, inRoot, 0xc01000, 1))...)
	mappings(t, k, ofRoot, append(stay, api.Mapping{Va: 0xc01000, Page: 36, Rights: 1})...)
}

// TestExamples: those of the document that tell of calls.
func TestExamples(t *testing.T) {
	adds := func(calls string, address int) *kern.Kernel {
		return boot(t, calls+"pages 8\nturn 0 9\nroot r 1\ntable t 2\nframe c 3\nframe d 4\nbox x 5 8\nthread h 6\ncap x 0 t rw\ncap x 1 c rx\ncap x 2 d rw\ncap h 0 x rw guard 0 29\ncap h 1 r rw\nmap x 0 r 0 -\nmap x 1 r 0x1000 rx\nmap x 2 r 0x2000 rw\n"+
			fmt.Sprintf("code c 0\nli x10, %d\nli x17, 20\necall\nlw x6, 0x7ff(x0)\nstop\nstart h 0 0 ready 0x1000\n", address))
	}
	k := adds("", 2)
	same(t, "the fifth tick", ticks(k, 5), made(6, api.CallUnmap, api.OK))
	mappings(t, k, 1, api.Mapping{Va: 0x1000, Page: 3, Rights: 5})
	same(t, "the sixth tick", k.Tick(), api.Did{Thread: 6, Event: api.Event{Trap: true, Cause: api.LoadAlign, Tval: 0x7ff}})
	same(t, "nine", ticks(adds("", 9), 5), made(6, api.CallUnmap, api.ErrSlot))
	same(t, "five", ticks(adds("", 5), 5), made(6, api.CallUnmap, api.ErrEmpty))
	same(t, "without the call", ticks(adds("calls 1 2\n", 5), 5), made(6, 0, api.ErrCall))
}
