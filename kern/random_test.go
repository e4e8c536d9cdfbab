package kern_test

import (
	"cmp"
	"fmt"
	"math"
	"math/rand"
	"reflect"
	"slices"
	"strings"
	"testing"

	"vault/api"
	"vault/asm"
	"vault/kern"
)

const randomPages = 64

// callAt: a call, mostly one of those that suit (who gets, or who sends), with an address that mostly suits it.
func callAt(r *rand.Rand, gets bool) string {
	suit := []int{api.CallSend, api.CallCall, api.CallCall, api.CallTry, api.CallRing, api.CallHear, api.CallYield}
	if gets {
		suit = []int{api.CallGet, api.CallServe, api.CallServe, api.CallPoll, api.CallReply, api.CallReply, api.CallListen, api.CallRing}
	}
	call, addr := suit[r.Intn(len(suit))], r.Intn(3)
	if r.Intn(8) == 0 {
		call = r.Intn(13)
	}
	switch {
	case r.Intn(9) == 0:
		addr = r.Intn(9)
	case call >= api.CallRing:
		addr = 3 + r.Intn(2)
	}
	return set(10, addr) + set(11, max(0, r.Intn(4)-2)) + set(17, call) + "ecall"
}

// code: instructions at random, most of which make calls, and then the same again.
func code(r *rand.Rand, gets bool) string {
	var l []string
	for range 4 + r.Intn(12) {
		switch r.Intn(24) {
		case 0:
			l = append(l, []string{".word 0", "ebreak", "lw x5, 2(x0)", "sw x5, 0(x0)", "jalr x0, 2(x0)"}[r.Intn(5)])
		case 1, 2:
			l = append(l, fmt.Sprintf("sw x%d, %d(x9)", 10+r.Intn(9), 4*r.Intn(4)))
		case 3:
			l = append(l, fmt.Sprintf("lw x%d, %d(x9)", 10+r.Intn(9), 4*r.Intn(4)))
		case 4, 5:
			l = append(l, fmt.Sprintf("addi x%d, x0, %d", 11+r.Intn(8), r.Intn(18)-1))
		case 6, 7, 8:
			l = append(l, fmt.Sprintf("addi x16, x0, %d", r.Intn(8)-1), fmt.Sprintf("addi x18, x0, %d", 4+r.Intn(4)))
		default:
			l = append(l, callAt(r, gets))
		}
	}
	text := "a: " + strings.Join(l, "\n") + "\njal x0, a"
	b, e, line := asm.Assemble(text)
	if e != api.OK {
		panic(fmt.Sprint(text, e, line))
	}
	return b
}

// randomSpec: some threads, each with its pages, share ends and bells; which of these they have, and how, is random.
func randomSpec(r *rand.Rand) api.Spec {
	s := api.Spec{Pages: randomPages, Calls: 0xffe}
	if r.Intn(4) == 0 {
		s.Calls &^= 1 << r.Intn(12)
	}
	for range 1 + r.Intn(3) {
		s.Turns = append(s.Turns, api.Turn{Domain: r.Intn(2), Ticks: 1 + r.Intn(9)})
	}
	s.Turns[0].Domain = 0
	object := func(kind, num, size int) {
		s.Objects = append(s.Objects, api.ObjectSpec{Object: api.Object{Kind: kind, Num: num}, Size: size})
	}
	put := func(box, index, kind, num, rights int) *api.CapSpec {
		s.Caps = append(s.Caps, api.CapSpec{At: api.Slot{Box: box, Index: index}, Cap: api.Cap{Object: api.Object{Kind: kind, Num: num}, Rights: rights}, From: noSlot})
		return &s.Caps[len(s.Caps)-1]
	}
	object(api.End, 40, 0)
	object(api.End, 41, 0)
	object(api.Bell, 42, 0)
	object(api.Bell, 43, 0)
	object(api.Untyped, 44+256*2, 0)
	for k := range 2 + r.Intn(4) {
		n := 8 * k
		for i, kind := range []int{api.Root, api.Table, api.Frame, api.Frame, api.Box, api.Thread, api.Box} {
			object(kind, n+i, 8)
		}
		s.Bytes = append(s.Bytes, api.BytesSpec{At: (n + 2) * api.PageLen, Data: code(r, k%2 == 0)})
		put(n+6, 0, api.Table, n+1, 3)
		put(n+6, 1, api.Frame, n+2, 7)
		put(n+6, 2, api.Frame, n+3, 3)
		for i := range 8 {
			randomCap(r, put, api.Slot{Box: n + 4, Index: i}, n)
		}
		put(n+5, 0, api.Box, n+4, 0).Cap.GuardBits = 29
		if r.Intn(20) > 0 {
			put(n+5, 1, api.Root, n, 0)
		}
		if r.Intn(3) > 0 {
			put(n+5, 2, api.End, 40+r.Intn(2), 2|r.Intn(8)).Cap.Badge = uint32(r.Intn(3))
		}
		s.Maps = append(s.Maps, api.MapSpec{At: api.Slot{Box: n + 6, Index: 0}, Root: n, Va: 4096}, api.MapSpec{At: api.Slot{Box: n + 6, Index: 1}, Root: n, Va: 0x1000, Rights: 5}, api.MapSpec{At: api.Slot{Box: n + 6, Index: 2}, Root: n, Va: 0x2000, Rights: 3})
		t := api.ThreadSpec{Num: n + 5, Domain: r.Intn(8) / 5, Prio: r.Intn(3), Ready: r.Intn(8) > 0}
		for i := range t.Context.Regs {
			t.Context.Regs[i] = uint32(r.Intn(9))
		}
		t.Context.Regs[9], t.Context.Pc = 0x2000, 0x1000
		s.Threads = append(s.Threads, t)
	}
	for n := range 8 {
		if r.Intn(3) == 0 {
			s.Irqs = append(s.Irqs, api.IrqSpec{Line: n, Bell: 42 + r.Intn(2), Badge: uint32(r.Intn(8))})
		}
	}
	link(r, s.Caps)
	return s
}

// randomCap: in the first slots stand mostly ends, then bells; some slots stay empty.
func randomCap(r *rand.Rand, put func(box, index, kind, num, rights int) *api.CapSpec, at api.Slot, n int) {
	rights := r.Intn(8) | r.Intn(8) | r.Intn(8)
	sort := r.Intn(7)
	if r.Intn(5) > 0 && at.Index < 5 {
		sort = 5 + at.Index/3
	}
	switch sort {
	case 0, 4: // none
	case 1:
		put(at.Box, at.Index, api.Frame, n+3, rights&3)
	case 2:
		put(at.Box, at.Index, api.Thread, n+5, rights)
	case 3:
		put(at.Box, at.Index, api.Port, r.Intn(8), rights)
	case 5:
		put(at.Box, at.Index, api.End, 40+r.Intn(5)/4, rights).Cap.Badge = uint32(r.Intn(5))
	case 6:
		put(at.Box, at.Index, api.Bell, 42+r.Intn(2), rights).Cap.Badge = uint32(r.Intn(5))
	}
}

// link: some capabilities come from others that may be where they come from.
func link(r *rand.Rand, l []api.CapSpec) {
	for i := range l {
		for _, x := range l[:i] {
			if x.Cap.Object == l[i].Cap.Object && r.Intn(4) == 0 && l[i].Cap.Rights&^x.Cap.Rights == 0 && (x.Cap.Badge == 0 || x.Cap.Badge == l[i].Cap.Badge) {
				l[i].From = x.At
			}
		}
	}
}

// numbersOf: all numbers in a spec, to be set.
func numbersOf(v reflect.Value) (l []reflect.Value) {
	switch v.Kind() {
	case reflect.Int, reflect.Uint32:
		return []reflect.Value{v}
	case reflect.Struct:
		for i := range v.NumField() {
			l = append(l, numbersOf(v.Field(i))...)
		}
	case reflect.Slice:
		for i := range v.Len() {
			l = append(l, numbersOf(v.Index(i))...)
		}
	}
	return l
}

// spoilt: one to three of a spec's numbers are others: near what they were, those of other things, or of no thing.
func spoilt(r *rand.Rand, s *api.Spec) {
	l := numbersOf(reflect.ValueOf(s).Elem())
	for range 1 + r.Intn(3) {
		v := l[r.Intn(len(l))]
		others := []int64{-1, 0, 1, 2, 3, 4, 5, 7, 8, 9, 32, 33, 40, 42, 48, 64, 256, 257, 0x1001, 0x2000, 0x3000, 0x400000, math.MaxInt64, math.MinInt64, math.MaxUint32, math.MaxInt32}
		w := others[r.Intn(len(others))]
		if v.Kind() == reflect.Uint32 {
			v.SetUint(uint64(uint32(w)))
			continue
		}
		switch r.Intn(3) {
		case 0:
			w = v.Int() + 1 - 2*r.Int63n(2)
		case 1:
			if o := l[r.Intn(len(l))]; o.Kind() == reflect.Int {
				w = o.Int()
			}
		}
		v.SetInt(w)
	}
}

// compare: all that is told, but the bytes of memory.
func compare(k *kern.Kernel, m *model) string {
	if got, want := k.Threads(), m.threads(); !slices.Equal(got, want) {
		return fmt.Sprintf("Threads: %v\nwanted %v", got, want)
	}
	if l := k.Entries(); !m.holds(l) {
		return fmt.Sprintf("Entries: %v\nwanted %v", l, m.heap)
	}
	turn, left := k.Turn()
	if wantTurn, wantLeft := m.place(); turn != wantTurn || left != wantLeft {
		return fmt.Sprintf("Turn: %d, %d, wanted %d, %d", turn, left, wantTurn, wantLeft)
	}
	for prio := range 16 {
		if got, _ := k.Queue(prio/8, prio%8); !slices.Equal(got, numbers(m.queue(prio/8, prio%8))) {
			return fmt.Sprintf("Queue(%d, %d): %v", prio/8, prio%8, got)
		}
	}
	for n, x := range m.lines {
		bell, badge, masked, pending, e := k.Irq(n)
		in, out, f := k.Waiting(n)
		if (row{bell, badge, masked, pending}) != x || in != m.fed[n] || out != m.put[n] || e != api.OK || f != api.OK {
			return fmt.Sprintf("Irq(%d): %d, %d, %v, %v; Waiting: %q, %q", n, bell, badge, masked, pending, in, out)
		}
	}
	return compareObjects(k, m)
}

// compareObjects: what lies in memory, and what is told of it.
func compareObjects(k *kern.Kernel, m *model) string {
	slices.SortFunc(m.objects, func(a, b api.Object) int {
		return cmp.Or(cmp.Compare(a.Kind, b.Kind), cmp.Compare(a.Num, b.Num))
	})
	if got := k.Objects(); !slices.Equal(got, m.objects) {
		return fmt.Sprintf("Objects: %v\nwanted %v", got, m.objects)
	}
	kinds := make([]int, randomPages)
	for _, o := range m.objects {
		if o.Kind == api.Untyped {
			if mark, e := k.Mark(o.Num); mark != m.marks[o.Num] || e != api.OK {
				return fmt.Sprintf("Mark(%d): %d, %d, wanted %d", o.Num, mark, e, m.marks[o.Num])
			}
			continue
		}
		kinds[o.Num] = o.Kind
	}
	for n, kind := range kinds {
		line, e := k.Line(n)
		word, f := k.Word(n)
		size, g := k.Size(n)
		bell, box := kind == api.Bell, kind == api.Box || kind == api.Thread
		if (e == api.OK) != (bell || kind == api.End) || (f == api.OK) != bell || word != m.words[n] || e == api.OK && !slices.Equal(line, numbers(m.line(n))) {
			return fmt.Sprintf("place %d: %v, %d, %d, %d", n, line, e, word, f)
		}
		if size != m.sizes[n] || (g == api.OK) != box {
			return fmt.Sprintf("Size(%d): %d, %d, wanted %d", n, size, g, m.sizes[n])
		}
	}
	return ""
}

// compareBytes: all bytes of memory.
func compareBytes(k *kern.Kernel, m *model) string {
	got, _ := k.Peek(0, randomPages*api.PageLen)
	want, _ := m.memory.Read(0, randomPages*api.PageLen)
	if got == want {
		return ""
	}
	for i := range want {
		if got[i] != want[i] {
			return fmt.Sprintf("byte %d of page %d is %d, wanted %d", i%api.PageLen, i/api.PageLen, got[i], want[i])
		}
	}
	return ""
}

// goOn: a tick, or something from outside; what it told that is wrong.
func goOn(r *rand.Rand, k *kern.Kernel, m *model) string {
	switch n := r.Intn(11) - 1; r.Intn(30) {
	case 0:
		if got, want := k.Raise(n), m.raise(n); got != want {
			return fmt.Sprintf("Raise(%d): %d, wanted %d", n, got, want)
		}
	case 1:
		s := strings.Repeat("ab", r.Intn(20))
		fed, e := k.Feed(n, s)
		if want, wantE := m.feed(n, s); fed != want || e != wantE {
			return fmt.Sprintf("Feed(%d, %q): %d, %d, wanted %d, %d", n, s, fed, e, want, wantE)
		}
	case 2:
		s, e := k.Drain(n)
		if want, wantE := m.drain(n); s != want || e != wantE {
			return fmt.Sprintf("Drain(%d): %q, %d, wanted %q, %d", n, s, e, want, wantE)
		}
	default:
		got, want := k.Tick(), m.tick()
		if got != want {
			return fmt.Sprintf("Tick: %v, wanted %v", got, want)
		}
		if !got.Event.Trap && r.Intn(8) > 0 {
			return ""
		}
	}
	return compare(k, m)
}

func TestAtRandom(t *testing.T) {
	r := rand.New(rand.NewSource(12))
	seen := map[string]int{}
	for n := range 600 {
		s := randomSpec(r)
		k, e, at := kern.New(s)
		m, wantE, wantAt := begin(s)
		if e != wantE || at != wantAt || e != api.OK {
			t.Fatalf("system %d: New: %d, %d, wanted %d, %d", n, e, at, wantE, wantAt)
		}
		for step := 0; step < 400 && m.idle < 20; step++ {
			if wrong := goOn(r, k, m); wrong != "" {
				t.Fatalf("system %d, step %d: %s", n, step, wrong)
			}
		}
		if wrong := compareBytes(k, m); wrong != "" {
			t.Fatalf("system %d: %s", n, wrong)
		}
		for what, often := range m.seen {
			seen[what] += often
		}
	}
	for _, what := range []string{"given", "forgotten", "a bell is heard", "goes on behind a fault", "stops behind a fault", "nobody is told", "met as 1", "met as 2", "met as 3", "met as 7"} {
		if seen[what] < 5 {
			t.Errorf("%s: %d times in all", what, seen[what])
		}
	}
	for call := 1; call <= api.CallListen; call++ {
		if what := fmt.Sprintf("call %d is 0", call); seen[what] < 5 {
			t.Errorf("%s: %d times in all", what, seen[what])
		}
	}
}

// TestWrongAtRandom: specs in which some numbers are others are refused as the chapter says, or make a kernel as it says.
func TestWrongAtRandom(t *testing.T) {
	r := rand.New(rand.NewSource(13))
	seen := map[api.Errno]int{}
	for n := range 3000 {
		s := randomSpec(r)
		spoilt(r, &s)
		k, e, at := kern.New(s)
		m, wantE, wantAt := begin(s)
		if e != wantE || at != wantAt || (k == nil) != (e != api.OK) {
			t.Fatalf("system %d: New: %d, %d, wanted %d, %d: %v", n, e, at, wantE, wantAt, s)
		}
		seen[e]++
		if k == nil {
			continue
		}
		for step := range 20 {
			if wrong := goOn(r, k, m); wrong != "" {
				t.Fatalf("system %d, step %d: %s", n, step, wrong)
			}
		}
	}
	for _, e := range []api.Errno{api.OK, api.ErrArg, api.ErrName, api.ErrTwice, api.ErrForm, api.ErrKind, api.ErrSlot, api.ErrFull, api.ErrEmpty, api.ErrRight, api.ErrState, api.ErrTable} {
		if seen[e] == 0 {
			t.Errorf("New was never %d", e)
		}
	}
}
