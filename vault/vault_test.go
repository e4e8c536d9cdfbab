package vault_test

import (
	"math"
	"slices"
	"strings"
	"testing"

	"vault/api"
	"vault/kern"
	"vault/spec"
	"vault/vault"
)

// adds is the document's text ADDS: a thread that counts in a frame for ever.
const adds = `pages 8
turn 0 9
root r 1
table t 2
frame c 3
frame d 4
box x 5 8
thread h 6
cap x 0 t rw
cap x 1 c rx
cap x 2 d rw
cap h 0 x rw guard 0 29
cap h 1 r rw
map x 0 r 0 -
map x 1 r 0x1000 rx
map x 2 r 0x2000 rw
code c 0
   li x5, 0x2000
a: lw x6, 0(x5)
   addi x6, x6, 1
   sw x6, 0(x5)
   jal x0, a
stop
start h 0 0 ready 0x1000
`

// counts is the code of adds.
const counts = "   li x5, 0x2000\na: lw x6, 0(x5)\n   addi x6, x6, 1\n   sw x6, 0(x5)\n   jal x0, a\n"

// with: adds, with one piece of it in place of another.
func with(t *testing.T, old, other string) string {
	t.Helper()
	if strings.Count(adds, old) != 1 {
		t.Fatalf("%q does not stand in the text once", old)
	}
	return strings.Replace(adds, old, other, 1)
}

func boot(t *testing.T, text string) *vault.System {
	t.Helper()
	s, e, line := vault.Boot(text)
	if s == nil || e != api.OK || line != 0 {
		t.Fatalf("Boot is refused: %d, line %d (%q)", e, line, strings.Split(text+"\n", "\n")[max(0, line-1)])
	}
	return s
}

func run(t *testing.T, s *vault.System, n, want int) {
	t.Helper()
	before := s.Ticks()
	if ran, e := s.Run(n); ran != want || e != api.OK {
		t.Errorf("Run(%d) is %d, %d, wanted %d", n, ran, e, want)
	}
	if now := s.Ticks(); now != before+n {
		t.Errorf("behind Run(%d) there were %d ticks, ahead of it %d", n, now, before)
	}
}

func only(t *testing.T, s *vault.System) api.ThreadLook {
	t.Helper()
	l := s.Threads()
	if len(l) != 1 {
		t.Fatalf("the threads are %v", l)
	}
	return l[0]
}

func TestBootRefuses(t *testing.T) {
	for name, x := range map[string]struct {
		text string
		e    api.Errno
		line int
	}{
		"an empty text":                   {"", api.ErrArg, 0},
		"no turn":                         {"pages 1", api.ErrArg, 0},
		"no pages":                        {"turn 0 1", api.ErrArg, 0},
		"too many pages":                  {"pages 257\nturn 0 1", api.ErrArg, 0},
		"a turn that may not be":          {"pages 1\nturn 8 1", api.ErrArg, 0},
		"too many bytes":                  {strings.Repeat("#", api.MaxText+1), api.ErrLong, 0},
		"too many lines":                  {strings.Repeat("\n", api.MaxLines), api.ErrLong, 0},
		"a word that is none":             {"pages 1\n\nwhat", api.ErrWord, 3},
		"a word is missing":               {with(t, "map x 0 r 0 -", "map x 0 r 0"), api.ErrForm, 14},
		"an instruction that is none":     {with(t, "addi x6, x6, 1", "nop"), api.ErrWord, 20},
		"what spec refuses comes first":   {"pages 0\nturn 0 0\nwhat", api.ErrWord, 3},
		"an object beyond the memory":     {with(t, "frame d 4", "frame d 8"), api.ErrArg, 0},
		"two objects of one page":         {with(t, "frame d 4", "frame d 3"), api.ErrTwice, 0},
		"a box of three slots":            {with(t, "box x 5 8", "box x 5 3"), api.ErrArg, 0},
		"bytes of a frame beyond it":      {"pages 2\nturn 0 1\nframe f 2\nbytes f 0 00", api.ErrArg, 0},
		"a capability in a slot beyond":   {with(t, "cap x 2 d rw", "cap x 8 d rw"), api.ErrSlot, 0},
		"a capability in a full slot":     {with(t, "cap x 2 d rw", "cap x 1 d rw"), api.ErrFull, 0},
		"a guard that has too many bits":  {with(t, "guard 0 29", "guard 0 33"), api.ErrForm, 0},
		"a map of an empty slot":          {with(t, "map x 2 r 0x2000 rw", "map x 3 r 0x2000 rw"), api.ErrEmpty, 0},
		"a map with more than its rights": {with(t, "map x 2 r 0x2000 rw", "map x 2 r 0x2000 rwx"), api.ErrRight, 0},
		"a map where there is no table":   {with(t, "map x 2 r 0x2000 rw", "map x 2 r 0x400000 rw"), api.ErrTable, 0},
		"a thread of no domain":           {with(t, "start h 0 0", "start h 8 0"), api.ErrArg, 0},
		"a thread twice":                  {adds + "start h 0 0 idle 0", api.ErrTwice, 0},
		"an interrupt with a second bell": {adds + "bell g 7\nirq i 0\nbind i g 1\nbind i g 2", api.ErrTwice, 0},
		"a frame where there is a table":  {with(t, "frame d 4", "frame d 2"), api.ErrTwice, 0},
	} {
		if s, e, line := vault.Boot(x.text); s != nil || e != x.e || line != x.line {
			t.Errorf("%s: Boot is %d, %d, wanted %d, %d", name, e, line, x.e, x.line)
		}
	}
}

// TestBootAsBelow: what refuses is spec, or else kern.
func TestBootAsBelow(t *testing.T) {
	lines := strings.Split(adds, "\n")
	for i := range lines {
		for j := range lines {
			l := slices.Clone(lines)
			l[i], l[j] = l[j], l[i]
			text := strings.Join(l, "\n")
			said, e, line := spec.Parse(text)
			if e == api.OK {
				_, e, _ = kern.New(said.Spec)
			}
			if s, was, at := vault.Boot(text); was != e || at != line || (s == nil) != (e != api.OK) {
				t.Fatalf("Boot is %d, %d, wanted %d, %d:\n%s", was, at, e, line, text)
			}
		}
	}
}

func TestNobodyRuns(t *testing.T) {
	s := boot(t, "pages 1\nturn 0 1")
	run(t, s, 5, 0)
	if d := s.Tick(); d != (api.Did{Thread: api.None}) || s.Ticks() != 6 {
		t.Errorf("Tick is %v, the sixth of %d", d, s.Ticks())
	}
}

func TestRun(t *testing.T) {
	s := boot(t, adds)
	for _, n := range []int{-1, api.MaxRun + 1, math.MinInt, math.MaxInt} {
		if ran, e := s.Run(n); ran != 0 || e != api.ErrArg || s.Ticks() != 0 {
			t.Errorf("Run(%d) is %d, %d; there were %d ticks", n, ran, e, s.Ticks())
		}
	}
	run(t, s, 0, 0)
	run(t, s, 22, 22)
	if b, e := s.Peek(16384, 4); b != "\x05\x00\x00\x00" || e != api.OK {
		t.Errorf("the frame has %q, %d", b, e)
	}
	if h := only(t, s); h.Num != 6 || h.State != api.Ready || h.Context.Regs[6] != 5 || h.Context.Pc != 0x1008 {
		t.Errorf("the thread is %v", h)
	}
	run(t, s, api.MaxRun, api.MaxRun)
}

// TestRunOfThreadNought: a thread may be in page 0.
func TestRunOfThreadNought(t *testing.T) {
	s := boot(t, with(t, "thread h 6", "thread h 0"))
	run(t, s, 22, 22)
	tells(t, s, 0, 1, 0, 0, 0, "thread 0 1 0 0 -1 -1 -1 3 4104", " x5 8192", " x6 5", "cap 0 0 5 5 3 0 0 29 0 0 from -1 -1", "cap 0 1 4 1 3 0 0 0 0 0 from -1 -1")
}

// TestRunIsTicks: as many ticks, one by one, do the same.
func TestRunIsTicks(t *testing.T) {
	a, b := boot(t, adds), boot(t, adds)
	for n := range 40 {
		run(t, a, n, n)
		for range n {
			if d := b.Tick(); d.Thread != 6 || d.Event.Trap || d.Call != 0 || d.Err != api.OK {
				t.Fatalf("Tick is %v", d)
			}
		}
		if x, y := all(t, a), all(t, b); x != y || a.Ticks() != b.Ticks() {
			t.Fatalf("behind %d ticks it is\n%s\nbut\n%s", a.Ticks(), x, y)
		}
	}
}

func TestTurnsOfOthers(t *testing.T) {
	s := boot(t, with(t, "turn 0 9", "turn 0 9\nturn 1 3"))
	run(t, s, 24, 18)
	run(t, s, 12, 9)
}

func TestFault(t *testing.T) {
	s := boot(t, with(t, "map x 2 r 0x2000 rw", "map x 2 r 0x2000 r"))
	run(t, s, 4, 4)
	want := api.Did{Thread: 6, Event: api.Event{Trap: true, Cause: api.StorePage, Tval: 0x2000}}
	if d := s.Tick(); d != want {
		t.Errorf("the fifth tick is %v", d)
	}
	run(t, s, 17, 0)
	if h := only(t, s); h.State != api.Idle || h.Context.Pc != 0x1010 {
		t.Errorf("the thread is %v", h)
	}
	again := boot(t, with(t, "map x 2 r 0x2000 rw", "map x 2 r 0x2000 r"))
	run(t, again, 22, 5)
}

func TestCall(t *testing.T) {
	const few = "calls 1 2\n"
	unmaps := func(n string) string {
		return with(t, counts, "li x10, "+n+"\nli x17, 20\necall\nlw x6, 0x7ff(x0)\n")
	}
	for name, x := range map[string]struct {
		text string
		call int
		e    api.Errno
	}{
		"what is mapped":          {unmaps("2"), api.CallUnmap, api.OK},
		"a guard that is another": {unmaps("9"), api.CallUnmap, api.ErrSlot},
		"a slot that is empty":    {unmaps("5"), api.CallUnmap, api.ErrEmpty},
		"a call that may not be":  {few + unmaps("2"), 0, api.ErrCall},
		"the same, of none":       {few + unmaps("5"), 0, api.ErrCall},
	} {
		s := boot(t, x.text)
		run(t, s, 4, 4)
		want := api.Did{Thread: 6, Event: api.Event{Trap: true, Cause: api.Ecall}, Call: x.call, Err: x.e}
		if d := s.Tick(); d != want {
			t.Errorf("%s: the fifth tick is %v, wanted %v", name, d, want)
		}
		maps := []api.Mapping{{Va: 0x1000, Page: 3, Rights: 5}}
		if x.e != api.OK {
			maps = append(maps, api.Mapping{Va: 0x2000, Page: 4, Rights: 3})
		}
		if l, e := s.Mappings(1); !slices.Equal(l, maps) || e != api.OK {
			t.Errorf("%s: the mappings are %v, %d", name, l, e)
		}
		want = api.Did{Thread: 6, Event: api.Event{Trap: true, Cause: api.LoadAlign, Tval: 0x7ff}}
		if d := s.Tick(); d != want {
			t.Errorf("%s: the sixth tick is %v, wanted %v", name, d, want)
		}
	}
}

func TestFind(t *testing.T) {
	s := boot(t, adds+"irq i 5\nport p 7\nend e 0\nuntyped u 7 0\n")
	for name, want := range map[string]api.Object{
		"r": {Kind: api.Root, Num: 1}, "t": {Kind: api.Table, Num: 2}, "c": {Kind: api.Frame, Num: 3}, "d": {Kind: api.Frame, Num: 4},
		"x": {Kind: api.Box, Num: 5}, "h": {Kind: api.Thread, Num: 6}, "i": {Kind: api.Irq, Num: 5}, "p": {Kind: api.Port, Num: 7},
		"e": {Kind: api.End, Num: 0}, "u": {Kind: api.Untyped, Num: 7},
	} {
		if o, e := s.Find(name); o != want || e != api.OK {
			t.Errorf("Find(%q) is %v, %d", name, o, e)
		}
	}
	for _, name := range []string{"", "H", "a", "hh", "h ", " h", "pages", "ready", "\xff"} {
		if o, e := s.Find(name); o != (api.Object{}) || e != api.ErrName {
			t.Errorf("Find(%q) is %v, %d", name, o, e)
		}
	}
}

// TestFindWhatIsGone: names are the text's, whatever became of what they name.
func TestFindWhatIsGone(t *testing.T) {
	s := boot(t, with(t, counts, "li x10, 2\nli x17, 16\necall\n"))
	run(t, s, 5, 5)
	d := api.Object{Kind: api.Frame, Num: 4}
	if slices.Contains(s.Objects(), d) {
		t.Fatal("the frame stands still")
	}
	if o, e := s.Find("d"); o != d || e != api.OK {
		t.Errorf("Find is %v, %d", o, e)
	}
}

// TestByTheSameNames: what a kernel does and tells.
func TestByTheSameNames(t *testing.T) {
	s := boot(t, adds+"bell g 7\nirq i 3\nbind i g 64\n")
	if e := s.Raise(3); e != api.OK {
		t.Errorf("Raise: %d", e)
	}
	if w, e := s.Word(7); w != 64 || e != api.OK {
		t.Errorf("Word is %d, %d", w, e)
	}
	if bell, badge, masked, pending, e := s.Irq(3); bell != 7 || badge != 64 || !masked || pending || e != api.OK {
		t.Errorf("Irq is %d, %d, %v, %v, %d", bell, badge, masked, pending, e)
	}
	if n, e := s.Feed(2, "abc"); n != 3 || e != api.OK {
		t.Errorf("Feed is %d, %d", n, e)
	}
	if in, out, e := s.Waiting(2); in != "abc" || out != "" || e != api.OK {
		t.Errorf("Waiting is %q, %q, %d", in, out, e)
	}
	if n, e := s.Size(5); n != 8 || e != api.OK {
		t.Errorf("Size is %d, %d", n, e)
	}
	if l, e := s.Queue(0, 0); !slices.Equal(l, []int{6}) || e != api.OK {
		t.Errorf("Queue is %v, %d", l, e)
	}
	if turn, left := s.Turn(); turn != 0 || left != 9 {
		t.Errorf("Turn is %d, %d", turn, left)
	}
	s.Tick()
	if turn, left := s.Turn(); turn != 0 || left != 8 {
		t.Errorf("behind a tick Turn is %d, %d", turn, left)
	}
}

// TestSystemsAreApart: what one does is not seen in another of the same text.
func TestSystemsAreApart(t *testing.T) {
	a, b := boot(t, adds), boot(t, adds)
	before := all(t, b)
	run(t, a, 100, 100)
	a.Feed(0, "x")
	if all(t, b) != before || b.Ticks() != 0 {
		t.Errorf("the other one is\n%s\nand was\n%s", all(t, b), before)
	}
}
