package kern_test

import (
	"fmt"
	"math"
	"reflect"
	"testing"

	"vault/api"
	"vault/kern"
	"vault/spec"
)

var noSlot = api.Slot{Box: api.None, Index: api.None}

// set: a line, of one instruction, that puts a small number into a register.
func set(register, number int) string {
	return fmt.Sprintf("addi x%d, x0, %d\n", register, number)
}

// say: the lines of a call: its number, registers from 10 on.
func say(call int, regs ...int) string {
	t := ""
	for i, w := range regs {
		t += set(10+i, w)
	}
	return t + set(17, call) + "ecall\n"
}

// lines: how many ticks a call takes that say tells of, with so many registers.
func lines(regs int) int {
	return regs + 2
}

// system: a text of threads t0, t1, .. with the numbers 10, 20, ..; each with a box x0, x1, .. of 16 slots, which are a page less.
// Its code lies at 0x1000 and behind it is ebreak; its data lie at 0x2000. In each box: 0 end e (with all rights), 1 bell b, 2 end f (without Grant), 3 table, 4 code, 5 data.
func system(more string, codes ...string) string {
	t := "pages 64\nturn 0 1000\nend e 60\nbell b 61\nend f 62\nbell c 63\nirq i 3\nport p 4\n"
	for k, code := range codes {
		n := 10 * (k + 1)
		t += fmt.Sprintf("root r%d %d\ntable a%d %d\nframe c%d %d\nframe d%d %d\nbox x%d %d 16\nthread t%d %d\n", k, n-5, k, n-4, k, n-3, k, n-2, k, n-1, k, n)
		t += fmt.Sprintf("cap x%d 0 e rwg badge %d\ncap x%d 1 b rw badge %d\ncap x%d 2 f rw\ncap x%d 3 a%d rw\ncap x%d 4 c%d rx\ncap x%d 5 d%d rw\n", k, 100+k, k, 1<<k, k, k, k, k, k, k, k)
		t += fmt.Sprintf("cap t%d 0 x%d - guard 0 28\ncap t%d 1 r%d -\nmap x%d 3 r%d 0 -\nmap x%d 4 r%d 0x1000 rx\nmap x%d 5 r%d 0x2000 rw\n", k, k, k, k, k, k, k, k, k, k)
		t += fmt.Sprintf("code c%d 0\n%sebreak\nstop\n", k, code)
	}
	return t + more
}

// start: the threads are ready, with these priorities.
func start(prios ...int) string {
	t := ""
	for k, prio := range prios {
		t += fmt.Sprintf("start t%d 0 %d ready 0x1000\n", k, prio)
	}
	return t
}

func specOf(t *testing.T, text string) api.Spec {
	t.Helper()
	s, e, line := spec.Parse(text)
	if e != api.OK {
		t.Fatalf("the text is refused: %d, line %d: %s", e, line, text)
	}
	return s.Spec
}

func boot(t *testing.T, text string) *kern.Kernel {
	t.Helper()
	k, e, at := kern.New(specOf(t, text))
	if e != api.OK || at != 0 || k == nil {
		t.Fatalf("the kernel is refused: %d, %d: %s", e, at, text)
	}
	return k
}

// ticks: so many, and what the last one did.
func ticks(k *kern.Kernel, n int) (did api.Did) {
	for range n {
		did = k.Tick()
	}
	return did
}

// rest: ticks, till nobody runs; all calls that were made.
func rest(t *testing.T, k *kern.Kernel) (calls []api.Did) {
	t.Helper()
	for range 2000 {
		did := k.Tick()
		if did.Thread == api.None {
			return calls
		}
		if did.Event.Cause == api.Ecall {
			calls = append(calls, did)
		}
	}
	t.Fatal("it does not come to rest")
	return nil
}

// until: ticks, till a thread makes a call, which must go well.
func until(t *testing.T, k *kern.Kernel, thread, call int) {
	t.Helper()
	for range 500 {
		if did := k.Tick(); did.Thread == thread && did.Call == call {
			same(t, "the call", did, made(thread, call, api.OK))
			return
		}
	}
	t.Fatalf("thread %d does not make call %d", thread, call)
}

// made: what a tick tells in which a call was made.
func made(thread, call int, e api.Errno) api.Did {
	return api.Did{Thread: thread, Event: api.Event{Trap: true, Cause: api.Ecall}, Call: call, Err: e}
}

func same[T any](t *testing.T, what string, got, want T) {
	t.Helper()
	if !reflect.DeepEqual(got, want) {
		t.Errorf("%s: %v, wanted %v", what, got, want)
	}
}

func thread(t *testing.T, k *kern.Kernel, num int) api.ThreadLook {
	t.Helper()
	for _, x := range k.Threads() {
		if x.Num == num {
			return x
		}
	}
	t.Fatalf("there is no thread %d", num)
	return api.ThreadLook{}
}

// regs: a thread's registers from 10 on.
func regs(t *testing.T, k *kern.Kernel, num int, want ...uint32) {
	t.Helper()
	x := thread(t, k, num)
	same(t, fmt.Sprintf("registers of thread %d from 10 on", num), x.Context.Regs[10:10+len(want)], want)
}

// stand: a thread's state, where it waits, who waits for it, whom it waits for.
func stand(t *testing.T, k *kern.Kernel, num, state, at, caller, waits int) {
	t.Helper()
	x := thread(t, k, num)
	same(t, fmt.Sprintf("thread %d stands so", num), [4]int{x.State, x.At, x.Caller, x.Waits}, [4]int{state, at, caller, waits})
	ready := false
	l, _ := k.Queue(x.Domain, x.Prio)
	for _, n := range l {
		ready = ready || n == num
	}
	if ready != (state == api.Ready) {
		t.Errorf("thread %d of state %d: it is in its queue: %v", num, state, ready)
	}
}

func line(t *testing.T, k *kern.Kernel, place int, want ...int) {
	t.Helper()
	l, e := k.Line(place)
	if e != api.OK || len(l)+len(want) > 0 && !reflect.DeepEqual(l, want) {
		t.Errorf("the line of %d is %v, %d, wanted %v", place, l, e, want)
	}
}

// held: what a slot holds; an entry of noughts, if nothing.
func held(k *kern.Kernel, box, index int) api.Entry {
	for _, x := range k.Entries() {
		if x.At == (api.Slot{Box: box, Index: index}) {
			return x
		}
	}
	return api.Entry{}
}

// all: everything that a kernel of so many pages tells, to be held against what it tells later.
func all(k *kern.Kernel, pages int) string {
	place, left := k.Turn()
	return fmt.Sprintln(k.Threads(), place, left) + things(k, pages)
}

// things: everything but the threads and the turn.
func things(k *kern.Kernel, pages int) string {
	bytes, _ := k.Peek(0, pages*api.PageLen)
	t := fmt.Sprintln(k.Entries(), k.Objects())
	for n := range 64 {
		l, e := k.Queue(n/8, n%8)
		t += fmt.Sprint(l, e)
	}
	for n := range pages {
		l, e := k.Line(n)
		w, f := k.Word(n)
		s, g := k.Size(n)
		t += fmt.Sprintln(l, e, w, f, s, g)
	}
	for n := range 8 {
		bell, badge, masked, pending, e := k.Irq(n)
		in, out, f := k.Waiting(n)
		t += fmt.Sprintln(bell, badge, masked, pending, e, in, out, f)
	}
	for _, o := range k.Objects() {
		n, e := k.Mark(o.Num)
		t += fmt.Sprint(n, e)
	}
	return t + bytes
}

func TestNobodyRuns(t *testing.T) {
	k := boot(t, "pages 1\nturn 0 2\nturn 5 1")
	for i, want := range [][2]int{{0, 1}, {0, 0}, {1, 0}, {0, 1}} {
		same(t, "Tick", k.Tick(), api.Did{Thread: api.None})
		place, left := k.Turn()
		same(t, fmt.Sprintf("Turn behind tick %d", i), [2]int{place, left}, want)
	}
	if k.Threads() != nil || k.Entries() != nil || k.Objects() != nil {
		t.Errorf("there is something: %v, %v, %v", k.Threads(), k.Entries(), k.Objects())
	}
}

func TestWithoutRoot(t *testing.T) {
	for _, slot := range []string{"", "frame f 2\ncap h 1 f rwx\n", "table f 2\ncap h 1 f rw\n", "root r 2\ncap h 0 r rw\ncap h 2 r rw\ncap h 3 r rw\n"} {
		k := boot(t, "pages 3\nturn 0 1\nthread h 1\n"+slot+"start h 0 0 ready 64")
		same(t, "Tick", k.Tick(), api.Did{Thread: 1, Event: api.Event{Trap: true, Cause: api.FetchAccess, Tval: 64}})
		stand(t, k, 1, api.Idle, api.None, api.None, api.None)
		same(t, "Pc", thread(t, k, 1).Context.Pc, 64)
		same(t, "Tick", k.Tick(), api.Did{Thread: api.None})
	}
}

// TestStep: an instruction that does not trap does what chapter 6 says, by the thread's root; the rights of that capability do not count.
func TestStep(t *testing.T) {
	k := boot(t, system(start(0), "li x5, 0x2000\nli x6, 0x1234\nsw x6, 8(x5)\nlbu x7, 8(x5)\n"))
	for range 7 {
		if did := k.Tick(); did.Event.Trap && did.Event.Cause != api.Break {
			t.Errorf("Tick: %v", did)
		}
	}
	x := thread(t, k, 10)
	same(t, "registers", [3]uint32{x.Context.Regs[5], x.Context.Regs[6], x.Context.Regs[7]}, [3]uint32{0x2000, 0x1234, 0x34})
	s, e := k.Peek(8*api.PageLen+8, 4)
	same(t, "bytes", s, "\x34\x12\x00\x00")
	same(t, "error", e, api.OK)
}

// TestSlices: five ticks each, by turns; a thread of a higher priority ahead of both.
func TestSlices(t *testing.T) {
	spin := "a: jal x0, a\n"
	k := boot(t, system(start(3, 3, 4), spin, spin, ""))
	same(t, "Tick", k.Tick(), api.Did{Thread: 30, Event: api.Event{Trap: true, Cause: api.Break, Tval: 0x1000}})
	for n := range 25 {
		same(t, fmt.Sprintf("who runs in tick %d", n), k.Tick(), api.Did{Thread: 10 + n/5%2*10})
	}
	same(t, "what is left", [2]int{thread(t, k, 10).Left, thread(t, k, 20).Left}, [2]int{0, 5})
}

func TestNumbersThatMayNotBe(t *testing.T) {
	k := boot(t, system("bind i b 7\nuntyped u 32 3\n"+start(0), ""))
	was := all(k, 64)
	wrong := []int{-1, 8, 64, math.MinInt, math.MaxInt}
	for _, n := range wrong {
		same(t, "Raise", k.Raise(n), api.ErrArg)
		fed, e := k.Feed(n, "a")
		same(t, "Feed", []any{fed, e}, []any{0, api.ErrArg})
		s, e := k.Drain(n)
		same(t, "Drain", []any{s, e}, []any{"", api.ErrArg})
		bell, badge, masked, pending, e := k.Irq(n)
		same(t, "Irq", []any{bell, badge, masked, pending, e}, []any{0, uint32(0), false, false, api.ErrArg})
		in, out, e := k.Waiting(n)
		same(t, "Waiting", []any{in, out, e}, []any{"", "", api.ErrArg})
		_, e = k.Queue(n, 0)
		same(t, "Queue", e, api.ErrArg)
		_, e = k.Queue(0, n)
		same(t, "Queue", e, api.ErrArg)
		_, e = k.Peek(n, -1)
		same(t, "Peek", e, api.ErrArg)
		_, e = k.Mark(n)
		same(t, "Mark", e, api.ErrName)
		_, e = k.Line(n)
		same(t, "Line", e, api.ErrName)
		_, e = k.Word(n)
		same(t, "Word", e, api.ErrName)
	}
	for _, n := range []int{-1, 64, math.MinInt, math.MaxInt} {
		_, e := k.Mappings(n)
		same(t, "Mappings", e, api.ErrArg)
		_, e = k.Size(n)
		same(t, "Size", e, api.ErrName)
	}
	if all(k, 64) != was {
		t.Error("what was refused has changed something")
	}
}

// TestTold: what the parts tell the kernel tells.
func TestTold(t *testing.T) {
	k := boot(t, system("untyped u 32 3\nbytes d0 4094 0102\n"+start(6)+"bind i c 9\n", ""))
	mark, e := k.Mark(32 + 3*256)
	same(t, "Mark", []any{mark, e}, []any{0, api.OK})
	s, e := k.Peek(9*api.PageLen-3, 4)
	same(t, "Peek", []any{s, e}, []any{"\x00\x01\x02\x00", api.OK})
	m, e := k.Mappings(5)
	same(t, "Mappings", []any{m, e}, []any{[]api.Mapping{{Va: 0x1000, Page: 7, Rights: 5}, {Va: 0x2000, Page: 8, Rights: 3}}, api.OK})
	n, e := k.Size(9)
	same(t, "Size of a box", []any{n, e}, []any{16, api.OK})
	n, e = k.Size(10)
	same(t, "Size of a thread", []any{n, e}, []any{4, api.OK})
	_, e = k.Size(8)
	same(t, "Size of a frame", e, api.ErrName)
	l, e := k.Queue(0, 6)
	same(t, "Queue", []any{l, e}, []any{[]int{10}, api.OK})
	_, e = k.Word(60)
	same(t, "Word of an end", e, api.ErrName)
	bell, badge, masked, pending, e := k.Irq(3)
	same(t, "Irq", []any{bell, badge, masked, pending, e}, []any{63, uint32(9), false, false, api.OK})
	bell, badge, masked, pending, e = k.Irq(2)
	same(t, "Irq", []any{bell, badge, masked, pending, e}, []any{api.None, uint32(0), false, false, api.OK})
	same(t, "Objects", k.Objects(), []api.Object{{Kind: api.Untyped, Num: 800}, {Kind: api.Frame, Num: 7}, {Kind: api.Frame, Num: 8}, {Kind: api.Table, Num: 6}, {Kind: api.Root, Num: 5}, {Kind: api.Box, Num: 9}, {Kind: api.Thread, Num: 10}, {Kind: api.End, Num: 60}, {Kind: api.End, Num: 62}, {Kind: api.Bell, Num: 61}, {Kind: api.Bell, Num: 63}})
	same(t, "an entry", held(k, 10, 0), api.Entry{At: api.Slot{Box: 10}, Cap: api.Cap{Object: api.Object{Kind: api.Box, Num: 9}, GuardBits: 28}, From: noSlot})
	same(t, "an entry", held(k, 9, 5), api.Entry{At: api.Slot{Box: 9, Index: 5}, Cap: api.Cap{Object: api.Object{Kind: api.Frame, Num: 8}, Rights: 3, Root: 6, Va: 0x2000}, From: noSlot})
}

// TestListsAreTheCallers: what is done to a list that was told is seen nowhere.
func TestListsAreTheCallers(t *testing.T) {
	k := boot(t, system("start t0 0 0 ready 0x1000\n", say(api.CallHear, 1)))
	ticks(k, lines(1))
	was := all(k, 64)
	for range 2 {
		spoil(k.Threads())
		spoil(k.Entries())
		spoil(k.Objects())
		l, _ := k.Line(61)
		spoil(l)
		q, _ := k.Queue(0, 0)
		spoil(q)
		m, _ := k.Mappings(5)
		spoil(m)
		if all(k, 64) != was {
			t.Fatal("a list is not the caller's alone")
		}
	}
}

// spoil: a list's things go, those in its spare room too.
func spoil[T any](list []T) {
	clear(list[:cap(list)])
}

func TestPorts(t *testing.T) {
	k := boot(t, system(""))
	for n := range 8 {
		s := fmt.Sprintf("port%d", n)
		fed, e := k.Feed(n, s)
		same(t, "Feed", []any{fed, e}, []any{5, api.OK})
		fed, e = k.Feed(n, "")
		same(t, "Feed of nothing", []any{fed, e}, []any{0, api.OK})
	}
	long := ""
	for n := range 70 {
		long += string(rune('0' + n))
	}
	fed, e := k.Feed(7, long)
	same(t, "Feed of too many", []any{fed, e}, []any{59, api.OK})
	fed, e = k.Feed(7, "a")
	same(t, "Feed where there is no room", []any{fed, e}, []any{0, api.OK})
	for n := range 8 {
		want := fmt.Sprintf("port%d", n)
		if n == 7 {
			want += long[:59]
		}
		in, out, e := k.Waiting(n)
		same(t, "Waiting", []any{in, out, e}, []any{want, "", api.OK})
		s, e := k.Drain(n)
		same(t, "Drain", []any{s, e}, []any{"", api.OK})
		in, _, _ = k.Waiting(n)
		same(t, "Waiting behind Drain", in, want)
	}
}
