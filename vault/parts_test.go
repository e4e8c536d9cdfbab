package vault_test

import (
	"fmt"
	"math/rand"
	"strings"
	"testing"

	"vault/api"
	"vault/vault"
)

// partPages is how many pages each part of a random system has, from a multiple of it on.
const partPages = 64

// threads is how many threads each part has at first. The first one mostly gets messages, the second one sends them; the third one never waits, and sees to it that the others go on.
const threads = 3

// part is a piece of a system that shares nothing with others: threads and all that is theirs, in pages of its own, with interrupts, ports and domains of its own (the same numbers of each).
type part struct {
	r    *rand.Rand
	name string
	page int
	nums []int
	text strings.Builder
}

// put: a line; @ stands for the part's name, so that no two parts have a name in common.
func (p *part) put(form string, values ...any) {
	fmt.Fprintf(&p.text, strings.ReplaceAll(form, "@", p.name)+"\n", values...)
}

// bits: of its interrupts, ports and domains.
func (p *part) bits() uint32 {
	n := uint32(0)
	for _, i := range p.nums {
		n |= 1 << i
	}
	return n
}

func (p *part) view(t *testing.T, s *vault.System) string {
	t.Helper()
	v, e := s.View(p.page, p.page+partPages, p.bits(), p.bits(), p.bits())
	if e != api.OK {
		t.Fatalf("View is refused: %d", e)
	}
	return v
}

// threadPages is how many pages a thread has: a root, a table, two frames, two boxes, itself.
const threadPages = 7

// newPart: at the n-th place; its threads, what they share, who may do what with it, and the code of each of them.
func newPart(r *rand.Rand, n int, nums []int, code func(role int) string) *part {
	p := &part{r: r, name: string(rune('A' + n)), page: n * partPages, nums: nums}
	at := p.page + threads*threadPages
	p.put("end e@ %d\nend f@ %d\nbell b@ %d\nframe s@ %d", at, at+1, at+2, at+3)
	p.put("untyped u@ %d 3\nuntyped w@ %d 2", p.page+32, p.page+40)
	for i, n := range nums {
		p.put("irq i@%d %d\nport p@%d %d", i, n, i, n)
	}
	for j := range threads {
		at := p.page + j*threadPages
		p.put("root r@%d %d\ntable t@%d %d\nframe c@%d %d\nframe d@%d %d\nbox x@%d %d 32\nbox y@%d %d 4\nthread h@%d %d", j, at, j, at+1, j, at+2, j, at+3, j, at+4, j, at+5, j, at+6)
	}
	for j := range threads {
		p.thread(j)
		p.put("code c@%d 0\n%sstop", j, code(j))
		p.put("start h@%d %d %d ready 0x1000 x8 0x4000 x9 0x2000 x20 %d", j, nums[r.Intn(len(nums))], r.Intn(3), glassVa)
	}
	for i := range nums {
		if r.Intn(3) == 0 {
			p.put("bind i@%d b@ %d", i, 1<<r.Intn(8))
		}
	}
	return p
}

// thread: its slots. Of its addresses 0 to 31 are the slots of its box x, 32 to 35 those of its box y, 64 to 95 and 96 to 127 those of boxes in the slots 2 and 3 of y.
// What the threads share the first one has from nowhere, the others from the first one.
func (p *part) thread(j int) {
	shared := []string{"e@", "f@", "b@", "u@", "w@", "s@", "h@0", "h@1"}
	for slot, name := range shared {
		rights := "rwg"
		from := ""
		if j > 0 {
			rights = []string{"rwg", "rwg", "rw", "rw", "r"}[p.r.Intn(5)]
			from = fmt.Sprintf(" from x@0 %d", slot)
			if slot < 3 {
				from += fmt.Sprintf(" badge %d", p.r.Intn(16))
			}
		}
		p.put("cap x@%d %d "+name+" "+rights+from, j, slot)
	}
	other := (j + 1) % threads
	p.put("cap x@%d 8 i@%d rw\ncap x@%d 9 p@%d rw\ncap x@%d 10 r@%d rw\ncap x@%d 11 t@%d rw", j, j%2, j, j%2, j, j, j, j)
	p.put("cap x@%d 12 c@%d rx\ncap x@%d 13 d@%d rw\ncap x@%d 14 x@%d rwg\ncap x@%d 15 y@%d rw guard 0 3", j, j, j, j, j, other, j, j)
	p.put("cap y@%d 0 x@%d rwg\ncap y@%d 1 y@%d rwg guard 0 3", j, j, j, j)
	p.put("cap h@%d 0 y@%d rw guard 0 25\ncap h@%d 1 r@%d rw", j, j, j, j)
	if p.r.Intn(2) == 0 {
		p.put("cap h@%d 2 e@ w badge %d from x@0 0", j, 64+j)
	}
	p.put("map x@%d 11 r@%d 0 -\nmap x@%d 12 r@%d 0x1000 rx\nmap x@%d 13 r@%d 0x2000 rw", j, j, j, j, j, j)
	if p.r.Intn(2) == 0 {
		p.put("map x@%d 5 r@%d 0x3000 r", j, j)
	}
}

// head: how many pages there are in all, and whose turns.
func head(r *rand.Rand, parts int, domains []int) string {
	text := fmt.Sprintf("pages %d\n", parts*partPages)
	for range 2 + r.Intn(5) {
		text += fmt.Sprintf("turn %d %d\n", domains[r.Intn(len(domains))], 1+r.Intn(12))
	}
	for _, d := range domains {
		text += fmt.Sprintf("turn %d %d\n", d, 1+r.Intn(12))
	}
	return text
}

// alone: a system of one part.
func alone(t *testing.T, r *rand.Rand, code func(role int) string) (*vault.System, *part) {
	t.Helper()
	nums := r.Perm(8)[:2]
	p := newPart(r, 0, nums, code)
	return boot(t, head(r, 1, nums)+p.text.String()), p
}

// happens: something comes from outside, mostly nothing, to one of these numbers; the same to each system.
func happens(r *rand.Rand, nums []int, systems ...*vault.System) {
	n, what, bytes := nums[r.Intn(len(nums))], r.Intn(12), "some bytes"[:r.Intn(10)]
	for _, s := range systems {
		switch what {
		case 0, 1:
			s.Raise(n)
		case 2:
			s.Feed(n, bytes)
		case 3:
			s.Drain(n)
		}
	}
}
