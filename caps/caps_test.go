package caps_test

import (
	"fmt"
	"math"
	"slices"
	"testing"

	"vault/api"
	"vault/caps"
)

func at(box, index int) api.Slot { return api.Slot{Box: box, Index: index} }

func of(kind, num int) api.Cap { return api.Cap{Object: api.Object{Kind: kind, Num: num}} }

var (
	none  = at(-1, -1)
	frame = api.Cap{Object: api.Object{Kind: api.Frame, Num: 5}, Rights: 3}
	// rich has something else in each of its parts, also what no kernel would put there.
	rich = api.Cap{Object: api.Object{Kind: api.End, Num: -7}, Rights: -3, Badge: 0xfffffffe, Guard: 0x80000001, GuardBits: -9, Root: math.MaxInt, Va: 0xfffff001}
)

// absent are slots that are not there while the boxes are 1 and 2, of 4 slots each.
var absent = []api.Slot{none, at(-1, 0), at(-2, 0), at(0, 0), at(3, 0), at(math.MaxInt, 0), at(math.MinInt, 0), at(1, -1), at(1, 4), at(2, 5), at(1, 64), at(1, math.MaxInt), at(1, math.MinInt)}

func is(t *testing.T, what string, e, want api.Errno) {
	t.Helper()
	if e != want {
		t.Errorf("%s: %d, wanted %d", what, e, want)
	}
}

// with is a store with boxes of 4 slots.
func with(t *testing.T, boxes ...int) *caps.Store {
	t.Helper()
	s := caps.New()
	if s == nil {
		t.Fatal("New is nil")
	}
	for _, b := range boxes {
		is(t, "Make", s.Make(b, 4), api.OK)
	}
	return s
}

func put(t *testing.T, s *caps.Store, a api.Slot, c api.Cap, from api.Slot) {
	t.Helper()
	is(t, fmt.Sprintf("Put(%v)", a), s.Put(a, c, from), api.OK)
}

// picture tells all that there is of the boxes from -3 to 99, and of all entries.
func picture(s *caps.Store) string {
	p := fmt.Sprint(s.Entries())
	for b := -3; b < 100; b++ {
		if n, e := s.Size(b); e == api.OK {
			p += fmt.Sprint(" ", b, ":", n)
		}
	}
	return p
}

// refused asks also that all stands as it stood.
func refused(t *testing.T, s *caps.Store, what string, want api.Errno, call func() api.Errno) {
	t.Helper()
	before := picture(s)
	is(t, what, call(), want)
	if now := picture(s); now != before {
		t.Errorf("%s changed %s to %s", what, before, now)
	}
}

func below(t *testing.T, s *caps.Store, a api.Slot, want ...api.Slot) {
	t.Helper()
	if l, e := s.Below(a); e != api.OK || !slices.Equal(l, want) {
		t.Errorf("Below(%v): %v, %d, wanted %v", a, l, e, want)
	}
}

func from(t *testing.T, s *caps.Store, a, want api.Slot) {
	t.Helper()
	if f, e := s.From(a); e != api.OK || f != want {
		t.Errorf("From(%v): %v, %d, wanted %v", a, f, e, want)
	}
}

func holds(t *testing.T, s *caps.Store, a api.Slot, want api.Cap) {
	t.Helper()
	if c, e := s.Get(a); e != api.OK || c != want {
		t.Errorf("Get(%v): %v, %d, wanted %v", a, c, e, want)
	}
}

func isEmpty(t *testing.T, s *caps.Store, a api.Slot) {
	t.Helper()
	if c, e := s.Get(a); e != api.ErrEmpty || c != (api.Cap{}) {
		t.Errorf("Get(%v): %v, %d, wanted ErrEmpty", a, c, e)
	}
}

// example is the store of the chapter's first example.
func example(t *testing.T) *caps.Store {
	t.Helper()
	s := with(t, 1, 2)
	put(t, s, at(1, 0), frame, none)
	put(t, s, at(1, 1), frame, at(1, 0))
	put(t, s, at(2, 3), frame, at(1, 1))
	put(t, s, at(2, 0), frame, at(1, 0))
	return s
}

func TestExamples(t *testing.T) {
	s := example(t)
	below(t, s, at(1, 0), at(1, 1), at(2, 3), at(2, 0))
	if c, e := s.Take(at(1, 1)); c != frame || e != api.OK {
		t.Errorf("Take: %v, %d", c, e)
	}
	below(t, s, at(1, 0), at(2, 0), at(2, 3))
	isEmpty(t, s, at(1, 1))
}

func TestMakeSizes(t *testing.T) {
	sizes := []int{1, 2, 4, 8, 16, 32, 64}
	for n := -70; n <= 300; n++ {
		s := caps.New()
		if !slices.Contains(sizes, n) {
			refused(t, s, fmt.Sprintf("Make(7, %d)", n), api.ErrArg, func() api.Errno { return s.Make(7, n) })
			continue
		}
		is(t, fmt.Sprintf("Make(7, %d)", n), s.Make(7, n), api.OK)
		if size, e := s.Size(7); size != n || e != api.OK {
			t.Errorf("Size: %d, %d, wanted %d", size, e, n)
		}
		for i := range n {
			isEmpty(t, s, at(7, i))
		}
		is(t, "Put behind the end", s.Put(at(7, n), frame, none), api.ErrSlot)
		is(t, "Put at the end", s.Put(at(7, n-1), frame, none), api.OK)
	}
	for _, n := range []int{math.MaxInt, math.MinInt, 1 << 32, 1<<32 + 4, 1 << 62, 1 << 7} {
		s := caps.New()
		refused(t, s, fmt.Sprintf("Make(7, %d)", n), api.ErrArg, func() api.Errno { return s.Make(7, n) })
	}
}

func TestMakeNumbers(t *testing.T) {
	s := caps.New()
	for _, num := range []int{-1, -2, math.MinInt} {
		refused(t, s, "Make below 0", api.ErrArg, func() api.Errno { return s.Make(num, 4) })
		if n, e := s.Size(num); n != 0 || e != api.ErrName {
			t.Errorf("Size(%d): %d, %d", num, n, e)
		}
	}
	for _, num := range []int{0, 1, 255, 256, 1 << 32, math.MaxInt} {
		is(t, "Make", s.Make(num, 2), api.OK)
		is(t, "Put", s.Put(at(num, 1), frame, none), api.OK)
		for _, n := range []int{1, 2, 4} {
			refused(t, s, "Make a second time", api.ErrTwice, func() api.Errno { return s.Make(num, n) })
		}
		refused(t, s, "Make a second time, and wrong", api.ErrArg, func() api.Errno { return s.Make(num, 3) })
		if n, e := s.Size(num); n != 2 || e != api.OK {
			t.Errorf("Size(%d): %d, %d", num, n, e)
		}
	}
}

func TestDrop(t *testing.T) {
	s := with(t, 1, 2)
	for _, num := range []int{-1, 0, 3, math.MinInt, math.MaxInt} {
		refused(t, s, "Drop of none", api.ErrName, func() api.Errno { return s.Drop(num) })
	}
	for i := range 4 {
		put(t, s, at(1, i), frame, none)
		refused(t, s, "Drop of a full one", api.ErrFull, func() api.Errno { return s.Drop(1) })
		s.Take(at(1, i))
	}
	put(t, s, at(2, 0), frame, none)
	is(t, "Drop", s.Drop(1), api.OK)
	if n, e := s.Size(1); n != 0 || e != api.ErrName {
		t.Errorf("Size behind Drop: %d, %d", n, e)
	}
	refused(t, s, "Drop a second time", api.ErrName, func() api.Errno { return s.Drop(1) })
	refused(t, s, "Put behind Drop", api.ErrSlot, func() api.Errno { return s.Put(at(1, 0), frame, none) })
	is(t, "Make again", s.Make(1, 8), api.OK)
	if n, e := s.Size(1); n != 8 || e != api.OK {
		t.Errorf("Size: %d, %d", n, e)
	}
	for i := range 8 {
		isEmpty(t, s, at(1, i))
	}
	holds(t, s, at(2, 0), frame)
}

// TestDroppedParent: nothing comes from a slot of a box that went, also when such a box is there again.
func TestDroppedParent(t *testing.T) {
	s := with(t, 1, 2)
	put(t, s, at(1, 0), frame, none)
	put(t, s, at(2, 0), frame, at(1, 0))
	s.Take(at(1, 0))
	is(t, "Drop", s.Drop(1), api.OK)
	is(t, "Make", s.Make(1, 4), api.OK)
	put(t, s, at(1, 0), rich, none)
	below(t, s, at(1, 0))
	from(t, s, at(2, 0), none)
}

func TestPutKinds(t *testing.T) {
	for kind := -3; kind < 300; kind++ {
		s := with(t, 1)
		if kind >= 1 && kind <= 10 {
			put(t, s, at(1, 2), of(kind, 9), none)
			holds(t, s, at(1, 2), of(kind, 9))
			continue
		}
		// The kind is looked at first, whatever the slots are.
		for _, slots := range [][2]api.Slot{{at(1, 2), none}, {at(9, 0), none}, {at(1, 2), at(9, 9)}} {
			refused(t, s, fmt.Sprintf("Put of kind %d", kind), api.ErrKind, func() api.Errno { return s.Put(slots[0], of(kind, 9), slots[1]) })
		}
	}
	s := with(t, 1)
	put(t, s, at(1, 0), frame, none)
	for _, kind := range []int{math.MinInt, math.MaxInt, 1<<32 + 2, 0} {
		refused(t, s, "Put of a kind that is none", api.ErrKind, func() api.Errno { return s.Put(at(1, 0), of(kind, 0), none) })
	}
}

func TestPutRefused(t *testing.T) {
	s := with(t, 1, 2)
	put(t, s, at(1, 0), frame, none)
	for _, a := range absent {
		for _, f := range []api.Slot{none, at(1, 0), at(1, 1), at(9, 9)} {
			refused(t, s, fmt.Sprintf("Put(%v)", a), api.ErrSlot, func() api.Errno { return s.Put(a, frame, f) })
		}
		if a.Box != -1 {
			refused(t, s, fmt.Sprintf("Put from %v", a), api.ErrSlot, func() api.Errno { return s.Put(at(1, 1), frame, a) })
		}
	}
	for _, f := range []api.Slot{none, at(1, 0), at(1, 1), at(9, 9)} {
		refused(t, s, "Put into a full one", api.ErrFull, func() api.Errno { return s.Put(at(1, 0), rich, f) })
	}
	for _, f := range []api.Slot{at(1, 1), at(1, 2), at(2, 0)} {
		refused(t, s, "Put from an empty one", api.ErrEmpty, func() api.Errno { return s.Put(at(1, 1), frame, f) })
	}
}

// TestPutFromNone: a box None is enough, and what is told then is no slot.
func TestPutFromNone(t *testing.T) {
	for _, index := range []int{-1, 0, 1, 4, -2, math.MaxInt, math.MinInt} {
		s := with(t, 1)
		put(t, s, at(1, 3), frame, at(-1, index))
		from(t, s, at(1, 3), none)
		if l := s.Entries(); len(l) != 1 || l[0].From != none {
			t.Errorf("Entries: %v", l)
		}
	}
}

// TestPutOthers: this layer does not look at whether a capability fits that from which it comes.
func TestPutOthers(t *testing.T) {
	s := with(t, 1)
	put(t, s, at(1, 0), frame, none)
	put(t, s, at(1, 1), rich, at(1, 0))
	holds(t, s, at(1, 0), frame)
	holds(t, s, at(1, 1), rich)
	below(t, s, at(1, 0), at(1, 1))
}

// TestNoSuchSlot: all that calls for a slot as full refuses those that are not there or empty, with noughts or no slot.
func TestNoSuchSlot(t *testing.T) {
	s := example(t)
	try := func(a api.Slot, want api.Errno) {
		t.Helper()
		refused(t, s, fmt.Sprintf("Get(%v)", a), want, func() api.Errno {
			c, e := s.Get(a)
			if c != (api.Cap{}) {
				t.Errorf("Get(%v): %v", a, c)
			}
			return e
		})
		refused(t, s, fmt.Sprintf("From(%v)", a), want, func() api.Errno {
			f, e := s.From(a)
			if f != none {
				t.Errorf("From(%v): %v", a, f)
			}
			return e
		})
		refused(t, s, fmt.Sprintf("Take(%v)", a), want, func() api.Errno {
			c, e := s.Take(a)
			if c != (api.Cap{}) {
				t.Errorf("Take(%v): %v", a, c)
			}
			return e
		})
		refused(t, s, fmt.Sprintf("Below(%v)", a), want, func() api.Errno {
			l, e := s.Below(a)
			if len(l) != 0 {
				t.Errorf("Below(%v): %v", a, l)
			}
			return e
		})
		refused(t, s, fmt.Sprintf("Set(%v)", a), want, func() api.Errno { return s.Set(a, frame) })
		refused(t, s, fmt.Sprintf("Set(%v) to nothing", a), want, func() api.Errno { return s.Set(a, api.Cap{}) })
		for _, to := range []api.Slot{at(1, 3), at(1, 0), at(9, 9), a} {
			refused(t, s, fmt.Sprintf("Move(%v)", a), want, func() api.Errno { return s.Move(a, to) })
		}
	}
	for _, a := range absent {
		try(a, api.ErrSlot)
		refused(t, s, fmt.Sprintf("Move to %v", a), api.ErrSlot, func() api.Errno { return s.Move(at(1, 0), a) })
	}
	for _, a := range []api.Slot{at(1, 2), at(1, 3), at(2, 1), at(2, 2)} {
		try(a, api.ErrEmpty)
	}
}

func TestSet(t *testing.T) {
	s := example(t)
	for _, o := range []api.Object{{}, {Kind: api.Frame, Num: 6}, {Kind: api.Table, Num: 5}, {Kind: 11, Num: 5}, {Kind: api.Frame, Num: -5}} {
		c := rich
		c.Object = o
		refused(t, s, fmt.Sprintf("Set to %v", o), api.ErrKind, func() api.Errno { return s.Set(at(1, 1), c) })
	}
	c := rich
	c.Object = frame.Object
	is(t, "Set", s.Set(at(1, 1), c), api.OK)
	holds(t, s, at(1, 1), c)
	from(t, s, at(1, 1), at(1, 0))
	below(t, s, at(1, 0), at(1, 1), at(2, 3), at(2, 0))
	below(t, s, at(1, 1), at(2, 3))
	for _, a := range []api.Slot{at(1, 0), at(2, 0), at(2, 3)} {
		holds(t, s, a, frame)
	}
}

func TestTake(t *testing.T) {
	s := example(t)
	put(t, s, at(1, 2), rich, at(2, 3))
	if c, e := s.Take(at(1, 2)); c != rich || e != api.OK {
		t.Errorf("Take: %v, %d", c, e)
	}
	s.Take(at(1, 0))
	want := []api.Entry{{At: at(1, 1), Cap: frame, From: none}, {At: at(2, 0), Cap: frame, From: none}, {At: at(2, 3), Cap: frame, From: at(1, 1)}}
	if l := s.Entries(); !slices.Equal(l, want) {
		t.Errorf("Entries: %v, wanted %v", l, want)
	}
	put(t, s, at(1, 0), frame, none)
	below(t, s, at(1, 0))
	below(t, s, at(1, 1), at(2, 3))
}

// TestTakeFirst: what is below slot 0 of box 0, whose numbers are all 0, is told from what is empty.
func TestTakeFirst(t *testing.T) {
	s := with(t, 0, 1)
	put(t, s, at(0, 0), frame, none)
	put(t, s, at(1, 1), frame, at(0, 0))
	below(t, s, at(0, 0), at(1, 1))
	is(t, "Move", s.Move(at(0, 0), at(0, 3)), api.OK)
	below(t, s, at(0, 3), at(1, 1))
	s.Take(at(0, 3))
	from(t, s, at(1, 1), none)
	put(t, s, at(0, 0), frame, at(1, 1))
	below(t, s, at(1, 1), at(0, 0))
	for _, a := range []api.Slot{at(0, 1), at(0, 2), at(0, 3), at(1, 0), at(1, 2)} {
		isEmpty(t, s, a)
	}
}

func TestMove(t *testing.T) {
	s := example(t)
	for _, to := range []api.Slot{at(1, 1), at(1, 0), at(2, 0), at(2, 3)} {
		refused(t, s, fmt.Sprintf("Move to %v", to), api.ErrFull, func() api.Errno { return s.Move(at(1, 1), to) })
	}
	c := rich
	c.Object = frame.Object
	s.Set(at(1, 1), c)
	is(t, "Move", s.Move(at(1, 1), at(2, 2)), api.OK)
	isEmpty(t, s, at(1, 1))
	holds(t, s, at(2, 2), c)
	from(t, s, at(2, 2), at(1, 0))
	from(t, s, at(2, 3), at(2, 2))
	below(t, s, at(1, 0), at(2, 0), at(2, 2), at(2, 3))
	is(t, "Move of a root", s.Move(at(1, 0), at(1, 3)), api.OK)
	from(t, s, at(1, 3), none)
	from(t, s, at(2, 0), at(1, 3))
	below(t, s, at(1, 3), at(2, 0), at(2, 2), at(2, 3))
	put(t, s, at(1, 0), rich, none)
	below(t, s, at(1, 0))
}

// TestBelowOrder: what comes from a slot is told in order of slots, not as it came, and each with its own behind it.
func TestBelowOrder(t *testing.T) {
	s := with(t, 3, 20, 100)
	put(t, s, at(20, 1), frame, none)
	put(t, s, at(100, 0), frame, at(20, 1))
	put(t, s, at(20, 3), frame, at(20, 1))
	put(t, s, at(3, 3), frame, at(20, 1))
	put(t, s, at(20, 0), frame, at(20, 1))
	put(t, s, at(20, 2), frame, at(3, 3))
	put(t, s, at(3, 0), frame, at(100, 0))
	put(t, s, at(100, 3), frame, at(20, 0))
	put(t, s, at(3, 1), frame, at(20, 0))
	put(t, s, at(100, 1), frame, at(100, 3))
	put(t, s, at(3, 2), frame, none)
	below(t, s, at(20, 1), at(3, 3), at(20, 2), at(20, 0), at(3, 1), at(100, 3), at(100, 1), at(20, 3), at(100, 0), at(3, 0))
	below(t, s, at(20, 0), at(3, 1), at(100, 3), at(100, 1))
	below(t, s, at(3, 2))
	below(t, s, at(100, 1))
}

// TestBelowDeep: a chain as long as one likes is told whole.
func TestBelowDeep(t *testing.T) {
	s := caps.New()
	last := none
	var want []api.Slot
	for b := range 3000 {
		s.Make(b, 64)
		for i := range 64 {
			if e := s.Put(at(b, i), frame, last); e != api.OK {
				t.Fatalf("Put: %d", e)
			}
			last = at(b, i)
			want = append(want, last)
		}
	}
	if l, e := s.Below(at(0, 0)); e != api.OK || !slices.Equal(l, want[1:]) {
		t.Errorf("Below: %d slots, %d", len(l), e)
	}
}

func TestHolders(t *testing.T) {
	s := with(t, 9, 2, 40)
	holders := func(o api.Object, want ...api.Slot) {
		t.Helper()
		if l := s.Holders(o); !slices.Equal(l, want) {
			t.Errorf("Holders(%v): %v, wanted %v", o, l, want)
		}
	}
	put(t, s, at(40, 0), frame, none)
	put(t, s, at(9, 3), frame, none)
	put(t, s, at(9, 1), frame, none)
	put(t, s, at(2, 2), frame, at(40, 0))
	put(t, s, at(2, 1), of(api.Table, 5), none)
	put(t, s, at(2, 0), of(api.Frame, 0), none)
	c := frame
	c.Rights, c.Badge = 0, 9
	put(t, s, at(2, 3), c, none)
	holders(frame.Object, at(2, 2), at(2, 3), at(9, 1), at(9, 3), at(40, 0))
	holders(api.Object{Kind: api.Table, Num: 5}, at(2, 1))
	holders(api.Object{Kind: api.Frame, Num: 0}, at(2, 0))
	// Empty slots hold no capability, not one of noughts either.
	for _, o := range []api.Object{{}, {Kind: api.Table}, {Kind: api.Frame, Num: 6}, {Num: 5}, {Kind: -1, Num: -1}, {Kind: math.MaxInt, Num: math.MinInt}} {
		holders(o)
	}
	s.Take(at(9, 1))
	s.Move(at(40, 0), at(9, 0))
	holders(frame.Object, at(2, 2), at(2, 3), at(9, 0), at(9, 3))
}

// TestEntriesOrder: by numbers of boxes, whichever order a map has, and however they were made.
func TestEntriesOrder(t *testing.T) {
	numbers := []int{70, 3, math.MaxInt, 0, 11, 2, 256, 10, 1 << 40, 1, 100}
	s := with(t, numbers...)
	if l := s.Entries(); len(l) != 0 {
		t.Errorf("Entries of empty boxes: %v", l)
	}
	var want []api.Entry
	for _, b := range numbers {
		for _, i := range []int{3, 0, 2} {
			c := rich
			c.Va = uint32(b + i)
			put(t, s, at(b, i), c, at(-1, 5))
		}
	}
	slices.Sort(numbers)
	for _, b := range numbers {
		for _, i := range []int{0, 2, 3} {
			c := rich
			c.Va = uint32(b + i)
			want = append(want, api.Entry{At: at(b, i), Cap: c, From: none})
		}
	}
	for range 20 {
		if l := s.Entries(); !slices.Equal(l, want) {
			t.Fatalf("Entries: %v, wanted %v", l, want)
		}
	}
}

// TestNewMemory: what is written into an answer, spare room included, is seen nowhere.
func TestNewMemory(t *testing.T) {
	s := example(t)
	before := picture(s)
	ask := func() ([]api.Slot, []api.Slot, []api.Entry) {
		b, _ := s.Below(at(1, 0))
		return b, s.Holders(frame.Object), s.Entries()
	}
	b, h, l := ask()
	is1, is2, is3 := slices.Clone(b), slices.Clone(h), slices.Clone(l)
	s.Take(at(2, 3))
	s.Move(at(2, 0), at(2, 1))
	if !slices.Equal(b, is1) || !slices.Equal(h, is2) || !slices.Equal(l, is3) {
		t.Errorf("an answer changed behind it")
	}
	s = example(t)
	for range 2 {
		b, h, l = ask()
		if !slices.Equal(b, is1) || !slices.Equal(h, is2) || !slices.Equal(l, is3) {
			t.Errorf("another answer: %v, %v, %v", b, h, l)
		}
		b, h, l = b[:cap(b)], h[:cap(h)], l[:cap(l)]
		for i := range b {
			b[i] = at(77, 77)
		}
		for i := range h {
			h[i] = at(78, 78)
		}
		for i := range l {
			l[i] = api.Entry{At: at(79, 79)}
		}
	}
	if now := picture(s); now != before {
		t.Errorf("the store changed from %s to %s", before, now)
	}
}

func TestStoresApart(t *testing.T) {
	s, other := example(t), with(t, 1)
	put(t, other, at(1, 0), rich, none)
	before := picture(s)
	other.Take(at(1, 0))
	other.Drop(1)
	other.Make(2, 64)
	if now := picture(s); now != before {
		t.Errorf("another store changed %s to %s", before, now)
	}
	if l := caps.New().Entries(); len(l) != 0 {
		t.Errorf("Entries of a new one: %v", l)
	}
	if l := caps.New().Holders(frame.Object); len(l) != 0 {
		t.Errorf("Holders of a new one: %v", l)
	}
}
