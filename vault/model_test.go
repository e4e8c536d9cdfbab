package vault_test

import (
	"fmt"
	"math/rand"
	"regexp"
	"strings"
	"testing"

	"vault/api"
	"vault/vault"
)

// commas: what fmt tells of a list, as one word.
func commas(l []int) string {
	return strings.Trim(strings.ReplaceAll(fmt.Sprint(l), " ", ","), "[]")
}

// viewed is the chapter told once more: a pattern for each line, and the pages that are gone through for each kind.
func viewed(s *vault.System, from, to int, lines, ports, domains uint32) string {
	var b strings.Builder
	tell := func(form string, values ...any) { fmt.Fprintf(&b, form+"\n", values...) }
	for _, o := range s.Objects() {
		if n := o.Num % api.MaxPages; n < from || n >= to {
			continue
		}
		mark, _ := s.Mark(o.Num)
		size, _ := s.Size(o.Num)
		line, _ := s.Line(o.Num)
		word, _ := s.Word(o.Num)
		switch o.Kind {
		case api.Untyped:
			tell("untyped %d %d", o.Num, mark)
		case api.Box:
			tell("box %d %d", o.Num, size)
		case api.End:
			tell("place 7 %d 0 %s", o.Num, commas(line))
		case api.Bell:
			tell("place 8 %d %d %s", o.Num, word, commas(line))
		case api.Frame, api.Table, api.Root:
			tell("page %d %d", o.Kind, o.Num)
			for at := range api.PageLen / 64 {
				bytes, _ := s.Peek(o.Num*api.PageLen+at*64, 64)
				if bytes != string(make([]byte, 64)) {
					tell("  %d %x", at*64, bytes)
				}
			}
		}
	}
	for _, h := range s.Threads() {
		if h.Num < from || h.Num >= to {
			continue
		}
		tell("thread %d %d %d %d %d %d %d %d %d", h.Num, h.State, h.Domain, h.Prio, h.At, h.Caller, h.Waits, h.Left, h.Context.Pc)
		for i, n := range h.Context.Regs {
			if n > 0 {
				tell(" x%d %d", i, n)
			}
		}
	}
	for _, x := range s.Entries() {
		if c := x.Cap; x.At.Box >= from && x.At.Box < to {
			tell("cap %d %d %d %d %d %d %d %d %d %d from %d %d", x.At.Box, x.At.Index, c.Kind, c.Num, c.Rights, c.Badge, c.Guard, c.GuardBits, c.Root, c.Va, x.From.Box, x.From.Index)
		}
	}
	for n := range 24 {
		at, has := n/3, []uint32{lines, ports, domains}[n%3]>>(n/3)&1 == 1
		bell, badge, masked, pending, _ := s.Irq(at)
		in, out, _ := s.Waiting(at)
		switch {
		case has && n%3 == 0:
			tell("irq %d %d %d %t %t", at, bell, badge, masked, pending)
		case has && n%3 == 1:
			tell("port %d %x %x", at, in, out)
		case has:
			for prio := range 8 {
				queue, _ := s.Queue(at, prio)
				tell("queue %d %d %s", at, prio, commas(queue))
			}
		}
	}
	return b.String()
}

// TestViewAtRandom: of systems as they run, whichever part.
func TestViewAtRandom(t *testing.T) {
	r := rand.New(rand.NewSource(8))
	var seen strings.Builder
	for n := range 120 {
		s, p := alone(t, r, anyCode(r, n))
		for range 30 {
			s.Run(r.Intn(25))
			happens(r, p.nums, s)
			from := r.Intn(partPages + 1)
			to := from + r.Intn(partPages+1-from)
			bits := [3]uint32{r.Uint32(), r.Uint32(), r.Uint32()}
			v, e := s.View(from, to, bits[0], bits[1], bits[2])
			if want := viewed(s, from, to, bits[0], bits[1], bits[2]); v != want || e != api.OK {
				t.Fatalf("system %d, behind %d ticks, View(%d, %d, %v), %d: %s", n, s.Ticks(), from, to, bits, e, differ(v, want))
			}
			seen.WriteString(v)
		}
	}
	for _, form := range []string{`untyped \d+ [1-9]`, `place 7 \d+ 0 \d`, `place 8 \d+ [1-9]\d* `, `place 8 \d+ 0 \d`, `page 2 \d+\n  0 .*\n  64 `, `page 3 .*\n  \d`, `page 4 .*\n  \d`, `box \d+ 8`,
		`thread .*\n x1?\d `, `thread \d+ 4`, `thread \d+ [1-9] \d \d -1 \d`, `thread \d+ 5 \d \d -1 -1 \d`, `cap .* from \d`, `irq \d \d+ \d+ true true`, `irq \d -1 0 false false`, `port \d 73`, `port \d [0-9a-f]* [0-9a-f]`, `queue \d \d \d+,\d`} {
		if !regexp.MustCompile("(?m)^" + form).MatchString(seen.String()) {
			t.Errorf("nothing like this was told: %s", form)
		}
	}
}

// TestViewTellsNothingTwice: pieces of a system, one behind the other, tell all that the whole tells.
func TestViewTellsNothingTwice(t *testing.T) {
	r := rand.New(rand.NewSource(9))
	s, _ := alone(t, r, givesAndTakes(r))
	for range 20 {
		s.Run(40)
		count := map[string]int{}
		for _, line := range strings.Split(all(t, s), "\n") {
			count[line]++
		}
		for n := range partPages {
			v, _ := s.View(n, n+1, 0, 0, 0)
			for _, line := range strings.Split(v, "\n") {
				count[line]--
			}
		}
		for n := range 8 {
			v, _ := s.View(n, n, 1<<n, 1<<n, 1<<n)
			for _, line := range strings.Split(v, "\n") {
				count[line]--
			}
		}
		delete(count, "")
		for line, n := range count {
			if n != 0 {
				t.Fatalf("behind %d ticks %q is told %d times more by the whole", s.Ticks(), line, n)
			}
		}
	}
}

// TestViewChangesNothing: who is looked at goes on as who is not.
func TestViewChangesNothing(t *testing.T) {
	text := func() string {
		r := rand.New(rand.NewSource(10))
		nums := []int{0, 1}
		return head(r, 1, nums) + newPart(r, 0, nums, plays(r, false)).text.String()
	}
	a, b := boot(t, text()), boot(t, text())
	for range 300 {
		first := all(t, a)
		if all(t, a) != first {
			t.Fatal("twice the same question has two answers")
		}
		if x, y := a.Tick(), b.Tick(); x != y {
			t.Fatalf("the tick is %v, and of the other one %v", x, y)
		}
	}
	if all(t, a) != all(t, b) {
		t.Errorf("they are not the same: %s", differ(all(t, a), all(t, b)))
	}
}
