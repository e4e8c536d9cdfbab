package vault_test

import (
	"fmt"
	"math/rand"
	"reflect"
	"slices"
	"strings"
	"testing"

	"vault/api"
	"vault/caps"
	"vault/vault"
)

// state is all that there is of a system, in pieces.
type state struct {
	threads map[int]api.ThreadLook
	entries []api.Entry
	objects []api.Object
	pages   []string
	other   string // words, lines, marks, interrupts, ports
	queues  [64][]int
	turn    [2]int
}

func stateOf(s *vault.System, pages int) state {
	x := state{threads: map[int]api.ThreadLook{}, entries: s.Entries(), objects: s.Objects()}
	for _, h := range s.Threads() {
		x.threads[h.Num] = h
	}
	for n := range pages {
		b, _ := s.Peek(n*api.PageLen, api.PageLen)
		x.pages = append(x.pages, b)
	}
	var other strings.Builder
	for _, o := range x.objects {
		line, _ := s.Line(o.Num)
		word, _ := s.Word(o.Num)
		mark, _ := s.Mark(o.Num)
		fmt.Fprintln(&other, o, line, word, mark)
	}
	for n := range 8 {
		bell, badge, masked, pending, _ := s.Irq(n)
		in, out, _ := s.Waiting(n)
		fmt.Fprintln(&other, bell, badge, masked, pending, in, out)
	}
	x.other = other.String()
	for n := range x.queues {
		x.queues[n], _ = s.Queue(n/8, n%8)
	}
	x.turn[0], x.turn[1] = s.Turn()
	return x
}

// writable: the pages that a thread's root maps with Write.
func writable(s *vault.System, thread int) []int {
	var l []int
	for _, x := range s.Entries() {
		if x.At == (api.Slot{Box: thread, Index: 1}) && x.Cap.Kind == api.Root {
			maps, _ := s.Mappings(x.Cap.Num)
			for _, m := range maps {
				if m.Rights&api.Write != 0 {
					l = append(l, m.Page)
				}
			}
		}
	}
	return l
}

// intact: what a step of a thread has changed, and may not; "", if nothing.
// Who had nothing left of its slice goes behind the others of its queue with a new one as the tick begins, so of the threads of that queue what is left is not looked at.
func intact(before, after state, thread int, mayWrite []int) string {
	h, was := after.threads[thread], before.threads[thread]
	queue := 8*was.Domain + was.Prio
	h.Context, h.Left = was.Context, was.Left
	if h != was || len(before.threads) != len(after.threads) {
		return fmt.Sprintf("%v was %v", h, was)
	}
	for num, x := range after.threads {
		y := before.threads[num]
		if slices.Contains(before.queues[queue], num) {
			x.Left, y.Left = 0, 0
		}
		if num != thread && x != y {
			return fmt.Sprintf("%v was %v", x, y)
		}
	}
	for n, l := range after.queues {
		m := before.queues[n]
		if n == queue {
			l, m = slices.Sorted(slices.Values(l)), slices.Sorted(slices.Values(m))
		}
		if !slices.Equal(l, m) {
			return fmt.Sprintf("queue %d is %v, and was %v", n, l, m)
		}
	}
	for n, b := range after.pages {
		if b != before.pages[n] && !slices.Contains(mayWrite, n) {
			return fmt.Sprintf("page %d is not as it was", n)
		}
	}
	if !slices.Equal(before.entries, after.entries) || !slices.Equal(before.objects, after.objects) || before.other != after.other {
		return "capabilities, objects, places, interrupts or ports are not as they were"
	}
	return ""
}

// TestIntact: a step without a trap changes nothing but the thread's own; and a tick in which nobody runs but what is left of the turn.
func TestIntact(t *testing.T) {
	r := rand.New(rand.NewSource(5))
	steps, stores := 0, 0
	for n := range 8 {
		s, p := alone(t, r, plays(r, false))
		for range 250 {
			before := stateOf(s, partPages)
			mayWrite := map[int][]int{}
			for num := range before.threads {
				mayWrite[num] = writable(s, num)
			}
			did := s.Tick()
			after := stateOf(s, partPages)
			switch {
			case did.Thread == api.None:
				before.turn, after.turn = [2]int{}, [2]int{}
				if !reflect.DeepEqual(before, after) {
					t.Fatalf("system %d, tick %d: nobody ran, but something is otherwise", n, s.Ticks())
				}
			case !did.Event.Trap:
				if wrong := intact(before, after, did.Thread, mayWrite[did.Thread]); wrong != "" {
					t.Fatalf("system %d, tick %d: %s", n, s.Ticks(), wrong)
				}
				steps++
				if !slices.Equal(before.pages, after.pages) {
					stores++
				}
			}
			happens(r, p.nums, s)
		}
	}
	if steps < 1000 || stores < 10 {
		t.Errorf("%d steps did not trap, of which %d stored", steps, stores)
	}
}

// named: the slot that an address leads to for a thread, by what is told of all slots.
func named(s *vault.System, thread int, address uint32) (api.Slot, api.Errno) {
	none := api.Slot{Box: api.None, Index: api.None}
	store := caps.New()
	for _, x := range s.Entries() {
		size, _ := s.Size(x.At.Box)
		store.Make(x.At.Box, size) // refused, if it is made already
		if e := store.Put(x.At, x.Cap, none); e != api.OK {
			return none, e
		}
	}
	space, e := store.Get(api.Slot{Box: thread, Index: 0})
	if e != api.OK {
		return none, e
	}
	return store.Lookup(space, address, 32)
}

// below: all slots that come from one, and what comes from them.
func below(l []api.Entry, at api.Slot) []api.Slot {
	found := []api.Slot{at}
	for i := 0; i < len(found); i++ {
		for _, x := range l {
			if x.From == found[i] {
				found = append(found, x.At)
			}
		}
	}
	return found[1:]
}

func find(l []api.Entry, at api.Slot) (api.Entry, bool) {
	i := slices.IndexFunc(l, func(x api.Entry) bool { return x.At == at })
	if i < 0 {
		return api.Entry{}, false
	}
	return l[i], true
}

// revoked: what is wrong behind a Revoke; "", if nothing.
func revoked(s *vault.System, before []api.Entry, at api.Slot) string {
	after := s.Entries()
	gone := below(before, at)
	for _, x := range gone {
		if y, ok := find(after, x); ok {
			return fmt.Sprintf("%v stands still", y)
		}
	}
	for _, x := range after {
		if y, ok := find(before, x.At); !ok || y != x && slices.Contains(gone, y.From) {
			return fmt.Sprintf("%v stands, where %v stood", x, y)
		}
	}
	own, ok := find(after, at)
	was, _ := find(before, at)
	_, e := s.Size(at.Box)
	if ok != (e == api.OK) || ok && own != was {
		return fmt.Sprintf("its own capability was %v, and is %v", was, own)
	}
	return ""
}

// TestRevoked: behind Revoke nothing stands any more that was below the slot.
func TestRevoked(t *testing.T) {
	r := rand.New(rand.NewSource(6))
	slots, many := 0, 0
	for n := range 60 {
		s, p := alone(t, r, anyCode(r, n))
		for range 800 {
			before := s.Entries()
			threads := s.Threads()
			at := map[int]api.Slot{}
			for _, h := range threads {
				if h.State == api.Ready && h.Context.Regs[17] == api.CallRevoke {
					at[h.Num], _ = named(s, h.Num, h.Context.Regs[10])
				}
			}
			did := s.Tick()
			if did.Call == api.CallRevoke && did.Err == api.OK {
				if wrong := revoked(s, before, at[did.Thread]); wrong != "" {
					t.Fatalf("system %d, tick %d: %s", n, s.Ticks(), wrong)
				}
				gone := len(below(before, at[did.Thread]))
				slots += gone
				if gone > 3 {
					many++
				}
			}
			happens(r, p.nums, s)
		}
	}
	if slots < 100 || many < 10 {
		t.Errorf("%d slots were revoked, more than three at once %d times", slots, many)
	}
}

// TestRevokedPages: of what was written to a frame nothing is left when it is gone, and who has its page next finds noughts.
func TestRevokedPages(t *testing.T) {
	makes := "li x10, 0\nli x11, 2\nli x12, 0\nli x13, 8\nli x14, 1\nli x17, 12\necall\n"
	maps := "li x10, 8\nli x11, 3\nli x12, 0x3000\nli x13, 3\nli x17, 19\necall\n"
	s := boot(t, lone(makes+maps+"li x5, 0x3000\nsw x5, 8(x5)\nli x10, 0\nli x17, 17\necall\n"+makes+maps+"lw x6, 8(x5)"))
	run(t, s, 27, 27)
	if b, _ := s.Peek(8*api.PageLen+8, 4); b != "\x00\x30\x00\x00" {
		t.Errorf("in the frame there is %q", b)
	}
	before := s.Entries()
	run(t, s, 5, 5)
	if wrong := revoked(s, before, api.Slot{Box: 3, Index: 0}); wrong != "" {
		t.Error(wrong)
	}
	if b, _ := s.Peek(8*api.PageLen, 8*api.PageLen); strings.Trim(b, "\x00") != "" {
		t.Error("something is left in the pages of the untyped")
	}
	run(t, s, 25, 25)
	if h := only(t, s); h.Context.Regs[6] != 0 || h.State != api.Ready {
		t.Errorf("the thread is %v", h)
	}
}

// TestTurns: whose turn it is hangs on the turns alone; nobody runs just where nobody is ready whose turn it is.
func TestTurns(t *testing.T) {
	r := rand.New(rand.NewSource(7))
	ran, idle := 0, 0
	for n := range 30 {
		nums := r.Perm(8)[:2]
		top := head(r, 1, append(nums, r.Intn(8)))
		var order []int // of which domain each tick is, till the turns begin once more
		for _, line := range strings.Split(top, "\n") {
			var domain, ticks int
			if _, e := fmt.Sscanf(line, "turn %d %d", &domain, &ticks); e == nil {
				order = append(order, slices.Repeat([]int{domain}, ticks)...)
			}
		}
		s := boot(t, top+newPart(r, 0, nums, plays(r, false)).text.String())
		for tick := range 700 {
			domain := order[tick%len(order)]
			var ready []int
			for _, h := range s.Threads() {
				if h.State == api.Ready && h.Domain == domain {
					ready = append(ready, h.Num)
				}
			}
			did := s.Tick()
			if did.Thread == api.None && len(ready) > 0 || did.Thread != api.None && !slices.Contains(ready, did.Thread) {
				t.Fatalf("system %d, tick %d: thread %d ran; ready in domain %d are %v", n, tick, did.Thread, domain, ready)
			}
			if did.Thread == api.None {
				idle++
			} else {
				ran++
			}
			happens(r, nums, s)
		}
	}
	if ran < 1000 || idle < 1000 {
		t.Errorf("in %d ticks somebody ran, in %d nobody did", ran, idle)
	}
}
