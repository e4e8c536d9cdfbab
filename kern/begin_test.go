package kern_test

import (
	"fmt"
	"math"
	"slices"
	"testing"

	"vault/api"
	"vault/kern"
)

// plain: a spec in which each kind of object is there once, with a capability of each in box 5, by its kind; the pages 32 to 39 are free.
func plain() api.Spec {
	s := api.Spec{Pages: 40, Turns: []api.Turn{{Domain: 0, Ticks: 9}}, Calls: math.MaxUint32}
	s.Objects = []api.ObjectSpec{{Object: api.Object{Kind: api.Untyped, Num: 16 + 2*256}}}
	for kind := api.Frame; kind <= api.Bell; kind++ {
		s.Objects = append(s.Objects, api.ObjectSpec{Object: api.Object{Kind: kind, Num: kind}})
	}
	s.Objects[api.Box-1].Size = 16
	for _, o := range s.Objects {
		s.Caps = append(s.Caps, api.CapSpec{At: api.Slot{Box: api.Box, Index: o.Kind}, Cap: api.Cap{Object: o.Object, Rights: 7}, From: noSlot})
	}
	return s
}

// refused: New tells that, and nothing else.
func refused(t *testing.T, s api.Spec, e api.Errno, at int) {
	t.Helper()
	if k, got, gotAt := kern.New(s); k != nil || got != e || gotAt != at {
		t.Errorf("New: %v, %d, %d, wanted %d, %d", k != nil, got, gotAt, e, at)
	}
}

// taken: New makes a kernel.
func taken(t *testing.T, s api.Spec) *kern.Kernel {
	t.Helper()
	k, e, at := kern.New(s)
	if k == nil || e != api.OK || at != 0 {
		t.Fatalf("New: %v, %d, %d", k != nil, e, at)
	}
	return k
}

func TestBeginWithNothing(t *testing.T) {
	refused(t, api.Spec{}, api.ErrArg, 0)
	for _, pages := range []int{0, -1, 257, math.MinInt, math.MaxInt} {
		s := plain()
		s.Pages = pages
		refused(t, s, api.ErrArg, 0)
	}
	for _, turns := range [][]api.Turn{nil, {{Ticks: 0}}, {{Domain: 8, Ticks: 1}}, {{Domain: -1, Ticks: 1}}, {{Ticks: 1}, {Ticks: 1001}}, slices.Repeat([]api.Turn{{Ticks: 1}}, 17)} {
		s := plain()
		s.Turns = turns
		refused(t, s, api.ErrArg, 0)
	}
	taken(t, api.Spec{Pages: 256, Turns: []api.Turn{{Domain: 7, Ticks: 1000}}})
	taken(t, plain())
}

func TestBeginObjects(t *testing.T) {
	n := len(plain().Objects)
	for _, c := range []struct {
		o    api.ObjectSpec
		want api.Errno
	}{
		{api.ObjectSpec{}, api.ErrKind},
		{api.ObjectSpec{Object: api.Object{Kind: -1, Num: 32}}, api.ErrKind},
		{api.ObjectSpec{Object: api.Object{Kind: api.Irq, Num: 1}}, api.ErrKind},
		{api.ObjectSpec{Object: api.Object{Kind: api.Port, Num: 1}}, api.ErrKind},
		{api.ObjectSpec{Object: api.Object{Kind: api.Frame, Num: 40}}, api.ErrArg},
		{api.ObjectSpec{Object: api.Object{Kind: api.Thread, Num: -1}}, api.ErrArg},
		{api.ObjectSpec{Object: api.Object{Kind: api.Frame, Num: api.Frame}}, api.ErrTwice},
		{api.ObjectSpec{Object: api.Object{Kind: api.End, Num: api.Frame}}, api.ErrTwice},
		{api.ObjectSpec{Object: api.Object{Kind: api.Frame, Num: 19}}, api.ErrTwice},
		{api.ObjectSpec{Object: api.Object{Kind: api.Untyped, Num: 16}}, api.ErrTwice},
		{api.ObjectSpec{Object: api.Object{Kind: api.Box, Num: api.Frame}, Size: 3}, api.ErrArg}, // its size is looked at first
		{api.ObjectSpec{Object: api.Object{Kind: api.Box, Num: api.Frame}, Size: 4}, api.ErrTwice},
	} {
		s := plain()
		s.Objects = append(s.Objects, c.o)
		refused(t, s, c.want, n)
	}
	for _, size := range []int{0, -1, 3, 5, 6, 7, 63, 65, 128, math.MinInt, math.MaxInt, 1 << 32} {
		s := plain()
		s.Objects = append(s.Objects, api.ObjectSpec{Object: api.Object{Kind: api.Box, Num: 32}, Size: size})
		refused(t, s, api.ErrArg, n)
	}
	for size := 1; size <= 64; size *= 2 {
		s := plain()
		s.Objects = append(s.Objects, api.ObjectSpec{Object: api.Object{Kind: api.Box, Num: 39}, Size: size})
		got, e := taken(t, s).Size(39)
		same(t, "Size", []any{got, e}, []any{size, api.OK})
	}
	s := plain() // the size of what is no box is not looked at
	s.Objects = append(s.Objects, api.ObjectSpec{Object: api.Object{Kind: api.Thread, Num: 32}, Size: 3})
	got, e := taken(t, s).Size(32)
	same(t, "Size of a thread", []any{got, e}, []any{4, api.OK})
}

func TestBeginBytes(t *testing.T) {
	const first = api.Frame * api.PageLen
	whole := string(slices.Repeat([]byte("x"), api.PageLen))
	for _, c := range []api.BytesSpec{
		{At: -1, Data: ""}, {At: -1, Data: "ab"}, {At: math.MinInt}, {At: math.MaxInt}, {At: 40 * api.PageLen}, {At: 0, Data: "a"}, {At: 0},
		{At: first - 1, Data: "ab"}, {At: first - 1}, {At: first + 4095, Data: "ab"}, {At: first + 4096}, {At: first + 1, Data: whole}, {At: first, Data: whole + "x"},
		{At: 16 * api.PageLen, Data: "a"}, {At: api.Box * api.PageLen, Data: "a"}, {At: api.Table * api.PageLen, Data: "a"}, {At: -first, Data: "a"},
	} {
		s := plain()
		s.Bytes = []api.BytesSpec{{At: first, Data: "a"}, c}
		refused(t, s, api.ErrName, 1)
	}
	s := plain()
	s.Bytes = []api.BytesSpec{{At: first, Data: whole}, {At: first + 4095, Data: "z"}, {At: first, Data: "ab"}, {At: first + 4095}}
	got, e := taken(t, s).Peek(first-1, 4098)
	same(t, "bytes", []any{got, e}, []any{"\x00ab" + whole[3:] + "z\x00", api.OK})
}

func TestBeginCaps(t *testing.T) {
	frame := api.Cap{Object: api.Object{Kind: api.Frame, Num: api.Frame}, Rights: 3}
	end := api.Cap{Object: api.Object{Kind: api.End, Num: api.End}, Rights: 3}
	box := api.Cap{Object: api.Object{Kind: api.Box, Num: api.Box}, Rights: 3}
	free := api.Slot{Box: api.Box, Index: 12}
	with := func(c api.Cap, change func(c *api.Cap)) api.Cap {
		change(&c)
		return c
	}
	for i, c := range []struct {
		spec api.CapSpec
		want api.Errno
	}{
		{api.CapSpec{At: free, From: noSlot}, api.ErrName},
		{api.CapSpec{At: free, Cap: with(frame, func(c *api.Cap) { c.Kind = api.Nothing; c.Num = 0 }), From: noSlot}, api.ErrName},
		{api.CapSpec{At: free, Cap: with(frame, func(c *api.Cap) { c.Kind = 11 }), From: noSlot}, api.ErrName},
		{api.CapSpec{At: free, Cap: with(frame, func(c *api.Cap) { c.Kind = -1 }), From: noSlot}, api.ErrName},
		{api.CapSpec{At: free, Cap: with(frame, func(c *api.Cap) { c.Kind = api.Root }), From: noSlot}, api.ErrName},
		{api.CapSpec{At: free, Cap: with(frame, func(c *api.Cap) { c.Num = 32 }), From: noSlot}, api.ErrName},
		{api.CapSpec{At: free, Cap: with(frame, func(c *api.Cap) { c.Num = 40 }), From: noSlot}, api.ErrName},
		{api.CapSpec{At: free, Cap: with(frame, func(c *api.Cap) { c.Num = -1 }), From: noSlot}, api.ErrName},
		{api.CapSpec{At: free, Cap: api.Cap{Object: api.Object{Kind: api.Untyped, Num: 16}}, From: noSlot}, api.ErrName},
		{api.CapSpec{At: free, Cap: api.Cap{Object: api.Object{Kind: api.Irq, Num: 8}}, From: noSlot}, api.ErrName},
		{api.CapSpec{At: free, Cap: api.Cap{Object: api.Object{Kind: api.Port, Num: -1}}, From: noSlot}, api.ErrName},
		{api.CapSpec{At: free, Cap: with(frame, func(c *api.Cap) { c.Num = 32; c.Rights = 8 }), From: noSlot}, api.ErrName},
		{api.CapSpec{At: free, Cap: with(frame, func(c *api.Cap) { c.Rights = 8 }), From: noSlot}, api.ErrForm},
		{api.CapSpec{At: free, Cap: with(frame, func(c *api.Cap) { c.Rights = -1 }), From: noSlot}, api.ErrForm},
		{api.CapSpec{At: free, Cap: with(frame, func(c *api.Cap) { c.Root = 1 }), From: noSlot}, api.ErrForm},
		{api.CapSpec{At: free, Cap: with(frame, func(c *api.Cap) { c.Root = -1 }), From: noSlot}, api.ErrForm},
		{api.CapSpec{At: free, Cap: with(frame, func(c *api.Cap) { c.Va = 4096 }), From: noSlot}, api.ErrForm},
		{api.CapSpec{At: free, Cap: with(frame, func(c *api.Cap) { c.Guard = 1 }), From: noSlot}, api.ErrForm},
		{api.CapSpec{At: free, Cap: with(end, func(c *api.Cap) { c.GuardBits = 1 }), From: noSlot}, api.ErrForm},
		{api.CapSpec{At: free, Cap: with(frame, func(c *api.Cap) { c.Badge = 1 }), From: noSlot}, api.ErrForm},
		{api.CapSpec{At: free, Cap: with(box, func(c *api.Cap) { c.Badge = 1 }), From: noSlot}, api.ErrForm},
		{api.CapSpec{At: free, Cap: api.Cap{Object: api.Object{Kind: api.Irq, Num: 7}, Badge: 1}, From: noSlot}, api.ErrForm},
		{api.CapSpec{At: free, Cap: with(box, func(c *api.Cap) { c.GuardBits = 33 }), From: noSlot}, api.ErrForm},
		{api.CapSpec{At: free, Cap: with(box, func(c *api.Cap) { c.GuardBits = -1 }), From: noSlot}, api.ErrForm},
		{api.CapSpec{At: free, Cap: with(box, func(c *api.Cap) { c.Guard = 1 }), From: noSlot}, api.ErrForm},
		{api.CapSpec{At: free, Cap: with(box, func(c *api.Cap) { c.Guard = 8; c.GuardBits = 3 }), From: noSlot}, api.ErrForm},
		{api.CapSpec{At: free, Cap: with(box, func(c *api.Cap) { c.Guard = 1 << 31; c.GuardBits = 31 }), From: noSlot}, api.ErrForm},
		{api.CapSpec{At: free, Cap: frame, From: api.Slot{Box: api.Box, Index: api.End}}, api.ErrForm},
		{api.CapSpec{At: free, Cap: end, From: api.Slot{Box: api.Box, Index: 13}}, api.ErrForm},
		{api.CapSpec{At: free, Cap: with(end, func(c *api.Cap) { c.Badge = 4 }), From: api.Slot{Box: api.Box, Index: 14}}, api.ErrForm},
		{api.CapSpec{At: free, Cap: end, From: api.Slot{Box: api.Box, Index: 14}}, api.ErrForm},
		{api.CapSpec{At: api.Slot{Box: 99}, Cap: with(end, func(c *api.Cap) { c.Rights = 8 }), From: noSlot}, api.ErrForm},
		{api.CapSpec{At: api.Slot{Box: api.Box, Index: 13}, Cap: frame, From: api.Slot{Box: api.Box, Index: api.End}}, api.ErrForm},
		{api.CapSpec{At: api.Slot{Box: 99}, Cap: end, From: noSlot}, api.ErrSlot},
		{api.CapSpec{At: api.Slot{Box: api.Box, Index: 16}, Cap: end, From: noSlot}, api.ErrSlot},
		{api.CapSpec{At: api.Slot{Box: api.Box, Index: -1}, Cap: end, From: noSlot}, api.ErrSlot},
		{api.CapSpec{At: api.Slot{Box: api.Thread, Index: 4}, Cap: end, From: noSlot}, api.ErrSlot},
		{api.CapSpec{At: api.Slot{Box: api.Box, Index: 13}, Cap: end, From: noSlot}, api.ErrFull},
		{api.CapSpec{At: api.Slot{Box: api.Box, Index: 13}, Cap: end, From: api.Slot{Box: 99}}, api.ErrFull},
		{api.CapSpec{At: free, Cap: end, From: api.Slot{Box: 99}}, api.ErrSlot},
		{api.CapSpec{At: free, Cap: end, From: api.Slot{Box: api.Box, Index: 11}}, api.ErrEmpty},
		{api.CapSpec{At: free, Cap: end, From: free}, api.ErrEmpty},
	} {
		s := plain()
		s.Caps = append(s.Caps,
			api.CapSpec{At: api.Slot{Box: api.Box, Index: 13}, Cap: with(end, func(c *api.Cap) { c.Rights = 1 }), From: noSlot},
			api.CapSpec{At: api.Slot{Box: api.Box, Index: 14}, Cap: with(end, func(c *api.Cap) { c.Badge = 5 }), From: noSlot})
		n := len(s.Caps)
		s.Caps = append(s.Caps, c.spec)
		if k, e, at := kern.New(s); k != nil || e != c.want || at != n {
			t.Errorf("case %d, %v: %d, %d, wanted %d, %d", i, c.spec, e, at, c.want, n)
		}
	}
}

// TestBeginCapsThatMayBe: each stands in its slot as it was told, and comes from where it was told.
func TestBeginCapsThatMayBe(t *testing.T) {
	from := func(kind int) api.Slot { return api.Slot{Box: api.Box, Index: kind} }
	end := api.Object{Kind: api.End, Num: api.End}
	box := api.Object{Kind: api.Box, Num: api.Box}
	for _, c := range []api.CapSpec{
		{At: from(0), Cap: api.Cap{Object: end, Badge: math.MaxUint32}, From: noSlot},
		{At: from(0), Cap: api.Cap{Object: end, Rights: 7, Badge: 3}, From: from(api.End)},
		{At: from(0), Cap: api.Cap{Object: end, Rights: 2}, From: from(api.End)},
		{At: from(0), Cap: api.Cap{Object: api.Object{Kind: api.Bell, Num: api.Bell}, Badge: 1}, From: noSlot},
		{At: from(0), Cap: api.Cap{Object: box, Guard: math.MaxUint32, GuardBits: 32}, From: noSlot},
		{At: from(0), Cap: api.Cap{Object: box, Guard: 7, GuardBits: 3}, From: from(api.Box)},
		{At: from(0), Cap: api.Cap{Object: api.Object{Kind: api.Irq, Num: 0}, Rights: 7}, From: noSlot},
		{At: from(0), Cap: api.Cap{Object: api.Object{Kind: api.Irq, Num: 7}}, From: noSlot},
		{At: from(0), Cap: api.Cap{Object: api.Object{Kind: api.Port, Num: 0}}, From: noSlot},
		{At: from(0), Cap: api.Cap{Object: api.Object{Kind: api.Port, Num: 7}, Rights: 3}, From: noSlot},
		{At: from(0), Cap: api.Cap{Object: api.Object{Kind: api.Untyped, Num: 16 + 512}, Rights: 3}, From: from(api.Untyped)},
		{At: api.Slot{Box: api.Thread, Index: 3}, Cap: api.Cap{Object: end, Rights: 7}, From: api.Slot{Box: api.None, Index: 9}},
	} {
		s := plain()
		s.Caps = append(s.Caps, c)
		want := api.Entry(c)
		if c.From.Box == api.None {
			want.From = noSlot
		}
		same(t, "the entry", held(taken(t, s), c.At.Box, c.At.Index), want)
	}
	s := plain() // one with a badge gives the same badge on
	s.Caps = append(s.Caps,
		api.CapSpec{At: from(0), Cap: api.Cap{Object: end, Rights: 3, Badge: 6}, From: from(api.End)},
		api.CapSpec{At: from(12), Cap: api.Cap{Object: end, Rights: 3, Badge: 6}, From: from(0)})
	same(t, "the entry", held(taken(t, s), api.Box, 12).From, from(0))
}

func TestBeginMaps(t *testing.T) {
	at := func(index int) api.Slot { return api.Slot{Box: api.Box, Index: index} }
	const root = api.Root
	table := api.MapSpec{At: at(api.Table), Root: root, Va: 0x7fffff, Rights: -5}
	for i, c := range []struct {
		spec api.MapSpec
		want api.Errno
	}{
		{api.MapSpec{At: api.Slot{Box: 99}, Root: 99, Rights: 1}, api.ErrSlot},
		{api.MapSpec{At: noSlot, Root: root, Rights: 1}, api.ErrSlot},
		{api.MapSpec{At: at(0), Root: 99, Rights: 1}, api.ErrEmpty},
		{api.MapSpec{At: at(api.Root), Root: 99, Rights: 1}, api.ErrKind},
		{api.MapSpec{At: at(api.Untyped), Root: root, Rights: 1}, api.ErrKind},
		{api.MapSpec{At: at(api.Frame), Root: 99, Rights: 8}, api.ErrName},
		{api.MapSpec{At: at(api.Frame), Root: -1, Rights: 1}, api.ErrName},
		{api.MapSpec{At: at(api.Frame), Root: api.Table, Rights: 1}, api.ErrName},
		{api.MapSpec{At: at(api.Frame), Root: 32, Rights: 1}, api.ErrName},
		{api.MapSpec{At: at(api.Table), Root: 99}, api.ErrName},
		{api.MapSpec{At: at(api.Table), Root: root, Va: 0x800000}, api.ErrState},
		{api.MapSpec{At: at(12), Root: root, Va: 0x800000}, api.ErrState},
		{api.MapSpec{At: at(13), Root: root, Va: 0x400001}, api.ErrTwice},
		{api.MapSpec{At: at(14), Root: root, Va: 0x401000, Rights: 2}, api.ErrRight},
		{api.MapSpec{At: at(14), Root: root, Va: 0x401001, Rights: 3}, api.ErrRight},
		{api.MapSpec{At: at(api.Frame), Root: root, Va: 0x401001, Rights: 8}, api.ErrRight},
		{api.MapSpec{At: at(api.Frame), Root: root, Va: 0x401001, Rights: -1}, api.ErrRight},
		{api.MapSpec{At: at(api.Frame), Root: root, Va: 0x401001, Rights: math.MinInt}, api.ErrRight},
		{api.MapSpec{At: at(api.Frame), Root: root, Va: 0x401001, Rights: 0}, api.ErrArg},
		{api.MapSpec{At: at(api.Frame), Root: root, Va: 0x401000, Rights: 0}, api.ErrRight},
		{api.MapSpec{At: at(api.Frame), Root: root, Va: 0x801000, Rights: 2}, api.ErrRight},
		{api.MapSpec{At: at(api.Frame), Root: root, Va: 0x801000, Rights: 3}, api.ErrTable},
		{api.MapSpec{At: at(api.Frame), Root: root, Va: 0x402000, Rights: 3}, api.ErrTwice},
		{api.MapSpec{At: at(15), Root: root, Va: 0x403000, Rights: 8}, api.ErrState},
	} {
		s := mapped()
		s.Maps = []api.MapSpec{table, {At: at(15), Root: root, Va: 0x402000, Rights: 5}, c.spec}
		if k, e, at := kern.New(s); k != nil || e != c.want || at != 2 {
			t.Errorf("case %d, %v: %d, %d, wanted %d, 2", i, c.spec, e, at, c.want)
		}
	}
	s := mapped()
	s.Maps = []api.MapSpec{table, {At: at(15), Root: root, Va: 0x402000, Rights: 5}, {At: at(14), Root: root, Va: 0x7ff000, Rights: 1}, {At: at(api.Frame), Root: root, Va: 0x400000, Rights: 3}, {At: at(13), Root: root, Va: 0xffffffff}}
	k := taken(t, s)
	m, e := k.Mappings(root)
	same(t, "Mappings", []any{m, e}, []any{[]api.Mapping{{Va: 0x400000, Page: api.Frame, Rights: 3}, {Va: 0x402000, Page: api.Frame, Rights: 5}, {Va: 0x7ff000, Page: api.Frame, Rights: 1}}, api.OK})
	for index, want := range map[int][2]int{api.Table: {root + 1, 0x400000}, 12: {0, 0}, 13: {root + 1, 0xffc00000}, 15: {root + 1, 0x402000}, 14: {root + 1, 0x7ff000}, api.Frame: {root + 1, 0x400000}} {
		c := held(k, api.Box, index).Cap
		same(t, fmt.Sprintf("where the capability in slot %d is mapped", index), [2]int{c.Root, int(c.Va)}, want)
	}
}

// mapped: the same with capabilities in the slots 12 (the table), 13 (another table), 14 (the frame, to read alone), 15 (the frame).
func mapped() api.Spec {
	s := plain()
	s.Objects = append(s.Objects, api.ObjectSpec{Object: api.Object{Kind: api.Table, Num: 33}})
	put := func(index, kind, num, rights int) {
		s.Caps = append(s.Caps, api.CapSpec{At: api.Slot{Box: api.Box, Index: index}, Cap: api.Cap{Object: api.Object{Kind: kind, Num: num}, Rights: rights}, From: noSlot})
	}
	put(12, api.Table, api.Table, 0)
	put(13, api.Table, 33, 0)
	put(14, api.Frame, api.Frame, 1)
	put(15, api.Frame, api.Frame, 7)
	return s
}

// TestPageNought: it may be of each kind, as others may.
func TestPageNought(t *testing.T) {
	s := plain()
	s.Objects = append(s.Objects, api.ObjectSpec{Object: api.Object{Kind: api.Frame}})
	s.Bytes = []api.BytesSpec{{Data: "abc"}}
	got, e := taken(t, s).Peek(0, 4)
	same(t, "bytes", []any{got, e}, []any{"abc\x00", api.OK})
	for _, again := range []int{api.Table, 12} {
		s = mapped()
		s.Objects = append(s.Objects, api.ObjectSpec{Object: api.Object{Kind: api.Root}})
		s.Maps = []api.MapSpec{{At: api.Slot{Box: api.Box, Index: api.Table}}, {At: api.Slot{Box: api.Box, Index: again}, Va: 0x400000}}
		refused(t, s, api.ErrState, 1)
	}
	s = plain()
	s.Objects = append(s.Objects, api.ObjectSpec{Object: api.Object{Kind: api.Thread}})
	s.Threads = []api.ThreadSpec{{Num: 0, Ready: true}}
	same(t, "Tick", taken(t, s).Tick(), api.Did{Thread: 0, Event: api.Event{Trap: true, Cause: api.FetchAccess}})
}

func TestBeginThreads(t *testing.T) {
	for _, c := range []struct {
		spec api.ThreadSpec
		want api.Errno
	}{
		{api.ThreadSpec{Num: 32}, api.ErrName}, {api.ThreadSpec{Num: -1}, api.ErrName}, {api.ThreadSpec{Num: api.Box, Domain: 8}, api.ErrName}, {api.ThreadSpec{Num: math.MaxInt}, api.ErrName},
		{api.ThreadSpec{Num: 33, Domain: 8}, api.ErrArg}, {api.ThreadSpec{Num: 33, Domain: -1}, api.ErrArg}, {api.ThreadSpec{Num: 33, Prio: 8}, api.ErrArg}, {api.ThreadSpec{Num: 33, Prio: math.MinInt}, api.ErrArg},
		{api.ThreadSpec{Num: api.Thread, Prio: 8}, api.ErrArg}, {api.ThreadSpec{Num: api.Thread}, api.ErrTwice},
	} {
		s := plain()
		s.Objects = append(s.Objects, api.ObjectSpec{Object: api.Object{Kind: api.Thread, Num: 33}})
		s.Threads = []api.ThreadSpec{{Num: api.Thread}, c.spec}
		refused(t, s, c.want, 1)
	}
	s := plain()
	for num := 33; num < 38; num++ {
		s.Objects = append(s.Objects, api.ObjectSpec{Object: api.Object{Kind: api.Thread, Num: num}})
	}
	c := api.Context{Pc: 5}
	for i := range c.Regs {
		c.Regs[i] = uint32(i + 70)
	}
	s.Threads = []api.ThreadSpec{{Num: 36, Domain: 7, Prio: 7, Ready: true, Context: c}, {Num: 33, Domain: 7, Prio: 7, Ready: true}, {Num: 35, Domain: 1, Prio: 2, Context: c}}
	k := taken(t, s)
	c.Regs[0] = 0
	none := api.ThreadLook{At: api.None, Caller: api.None, Waits: api.None}
	with := func(num, state, domain, prio, left int, c api.Context) api.ThreadLook {
		x := none
		x.Num, x.State, x.Domain, x.Prio, x.Left, x.Context = num, state, domain, prio, left, c
		return x
	}
	same(t, "Threads", k.Threads(), []api.ThreadLook{with(api.Thread, api.Idle, 0, 0, 0, api.Context{}), with(33, api.Ready, 7, 7, 5, api.Context{}), with(34, api.Idle, 0, 0, 0, api.Context{}), with(35, api.Idle, 1, 2, 0, c), with(36, api.Ready, 7, 7, 5, c), with(37, api.Idle, 0, 0, 0, api.Context{})})
	l, e := k.Queue(7, 7)
	same(t, "Queue", []any{l, e}, []any{[]int{36, 33}, api.OK})
}

func TestBeginIrqs(t *testing.T) {
	for _, c := range []struct {
		spec api.IrqSpec
		want api.Errno
	}{
		{api.IrqSpec{Line: 8, Bell: 99}, api.ErrArg}, {api.IrqSpec{Line: -1, Bell: api.Bell}, api.ErrArg}, {api.IrqSpec{Line: math.MaxInt, Bell: api.Bell}, api.ErrArg},
		{api.IrqSpec{Line: 7, Bell: api.End}, api.ErrName}, {api.IrqSpec{Line: 7, Bell: -1}, api.ErrName}, {api.IrqSpec{Line: 2, Bell: 32}, api.ErrName},
		{api.IrqSpec{Line: 2, Bell: api.Bell}, api.ErrTwice},
	} {
		s := plain()
		s.Irqs = []api.IrqSpec{{Line: 0, Bell: api.Bell}, {Line: 2, Bell: api.Bell}, c.spec}
		refused(t, s, c.want, 2)
	}
	s := plain()
	s.Irqs = []api.IrqSpec{{Line: 7, Bell: api.Bell, Badge: 9}, {Line: 0, Bell: api.Bell}}
	k := taken(t, s)
	for n, want := range map[int][]any{7: {api.Bell, uint32(9), false, false, api.OK}, 0: {api.Bell, uint32(0), false, false, api.OK}, 3: {api.None, uint32(0), false, false, api.OK}} {
		bell, badge, masked, pending, e := k.Irq(n)
		same(t, "Irq", []any{bell, badge, masked, pending, e}, want)
	}
}

// TestBeginInOrder: of wrong things in several lists that of the first list is told, and of one list the first.
func TestBeginInOrder(t *testing.T) {
	s := plain()
	s.Irqs = []api.IrqSpec{{Line: 1, Bell: api.Bell}, {Line: 2, Bell: api.Bell}, {Line: 3, Bell: api.Bell}, {Line: 4, Bell: 99}, {Line: 9}}
	refused(t, s, api.ErrName, 3)
	s.Threads = []api.ThreadSpec{{Num: api.Thread}, {Num: api.Thread}, {Num: 99}}
	refused(t, s, api.ErrTwice, 1)
	s.Maps = []api.MapSpec{{At: noSlot}}
	refused(t, s, api.ErrSlot, 0)
	s.Caps = append(s.Caps, api.CapSpec{})
	refused(t, s, api.ErrName, len(s.Caps)-1)
	s.Bytes = []api.BytesSpec{{At: api.Frame * api.PageLen}, {At: api.Frame*api.PageLen + 1}, {At: -1}}
	refused(t, s, api.ErrName, 2)
	s.Objects = append(s.Objects, api.ObjectSpec{})
	refused(t, s, api.ErrKind, len(s.Objects)-1)
	s.Turns = nil
	refused(t, s, api.ErrArg, 0)
}

// TestSpecIsOnlyRead: what is done to a spec behind New is seen nowhere, and New changes nothing of it.
func TestSpecIsOnlyRead(t *testing.T) {
	s, twin := mapped(), mapped()
	for _, x := range []*api.Spec{&s, &twin} {
		x.Bytes = []api.BytesSpec{{At: api.Frame * api.PageLen, Data: "abc"}}
		x.Maps = []api.MapSpec{{At: api.Slot{Box: api.Box, Index: api.Table}, Root: api.Root, Va: 0x400001}}
		x.Threads = []api.ThreadSpec{{Num: api.Thread, Ready: true}}
		x.Irqs = []api.IrqSpec{{Line: 7, Bell: api.Bell, Badge: 9}}
		x.Threads[0].Context.Regs[0] = 3
	}
	k := taken(t, s)
	same(t, "the spec", s, twin)
	was := all(k, 40)
	clear(s.Turns)
	clear(s.Objects)
	clear(s.Bytes)
	clear(s.Caps)
	clear(s.Maps)
	clear(s.Threads)
	clear(s.Irqs)
	if all(k, 40) != was {
		t.Error("the spec is kept")
	}
	k.Tick()
	same(t, "who runs", thread(t, k, api.Thread).State, api.Idle)
	other := taken(t, twin)
	if all(other, 40) != was {
		t.Error("a second kernel hangs on what the first one did")
	}
}
