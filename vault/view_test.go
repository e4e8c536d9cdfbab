package vault_test

import (
	"fmt"
	"math"
	"slices"
	"strings"
	"testing"

	"vault/api"
	"vault/vault"
)

// pagesOf: how many pages the memory has, by what may be looked at.
func pagesOf(s *vault.System) int {
	n := 0
	for n <= api.MaxPages {
		if _, e := s.Peek(n*api.PageLen, 1); e != api.OK {
			break
		}
		n++
	}
	return n
}

// all: the whole system.
func all(t *testing.T, s *vault.System) string {
	t.Helper()
	v, e := s.View(0, pagesOf(s), math.MaxUint32, math.MaxUint32, math.MaxUint32)
	if e != api.OK {
		t.Fatalf("View is refused: %d", e)
	}
	return v
}

// tells: View is these lines.
func tells(t *testing.T, s *vault.System, from, to int, lines, ports, domains uint32, want ...string) {
	t.Helper()
	text := ""
	for _, line := range want {
		text += line + "\n"
	}
	if v, e := s.View(from, to, lines, ports, domains); v != text || e != api.OK {
		t.Errorf("View(%d, %d, %d, %d, %d) is %d\n%s\nwanted\n%s", from, to, lines, ports, domains, e, v, text)
	}
}

func TestViewRefuses(t *testing.T) {
	s := boot(t, adds)
	for _, x := range [][2]int{{-1, 1}, {-1, -1}, {1, 0}, {3, 2}, {0, 9}, {9, 9}, {8, 9}, {9, 8}, {0, -1}, {math.MinInt, 8}, {0, math.MaxInt}, {math.MinInt, math.MaxInt}, {math.MaxInt, math.MinInt}} {
		if v, e := s.View(x[0], x[1], 255, 255, 255); v != "" || e != api.ErrArg {
			t.Errorf("View(%v) is %q, %d", x, v, e)
		}
	}
	for n := range 9 {
		tells(t, s, n, n, 0, 0, 0)
	}
	most := boot(t, "pages 256\nturn 0 1\nend e 255")
	tells(t, most, 0, 256, 0, 0, 0, "place 7 255 0 ")
	if v, e := most.View(0, 257, 0, 0, 0); v != "" || e != api.ErrArg {
		t.Errorf("View beyond all pages is %q, %d", v, e)
	}
}

func TestViewOfExamples(t *testing.T) {
	s := boot(t, adds)
	tells(t, s, 5, 6, 0, 0, 0, "box 5 8", "cap 5 0 3 2 3 0 0 0 2 0 from -1 -1", "cap 5 1 2 3 5 0 0 0 2 4096 from -1 -1", "cap 5 2 2 4 3 0 0 0 2 8192 from -1 -1")
	s.Feed(0, "A")
	tells(t, s, 0, 0, 0, 1, 0, "port 0 41 ")
	none := boot(t, "pages 1\nturn 0 1")
	tells(t, none, 0, 1, 0, 0, 1, "queue 0 0 ", "queue 0 1 ", "queue 0 2 ", "queue 0 3 ", "queue 0 4 ", "queue 0 5 ", "queue 0 6 ", "queue 0 7 ")
}

// TestViewOfPages: pieces of 64 bytes, of frames, tables and roots alike.
func TestViewOfPages(t *testing.T) {
	s := boot(t, "pages 6\nturn 0 1\nframe f 1\nframe g 4\ntable t 2\nroot r 3\nbox b 5 2\nbytes f 63 01\nbytes f 64 ffa0\nbytes f 4095 0f\ncap b 0 t rw\ncap b 1 f rwx\nmap b 0 r 0x400000 -\nmap b 1 r 0x41f000 rx")
	zeros := func(n int) string { return strings.Repeat("00", n) }
	tells(t, s, 1, 2, 0, 0, 0, "page 2 1", "  0 "+zeros(63)+"01", "  64 ffa0"+zeros(62), "  4032 "+zeros(63)+"0f")
	tells(t, s, 4, 5, 0, 0, 0, "page 2 4")
	// the word of a table: the frame's page, and the bits of what may be done with it; of a root: the table's page
	tells(t, s, 2, 3, 0, 0, 0, "page 3 2", "  64 "+zeros(60)+"5b040000")
	tells(t, s, 3, 4, 0, 0, 0, "page 4 3", "  0 "+zeros(4)+"01080000"+zeros(56))
	tells(t, s, 5, 6, 0, 0, 0, "box 5 2", "cap 5 0 3 2 3 0 0 0 4 4194304 from -1 -1", "cap 5 1 2 1 7 0 0 0 4 4321280 from -1 -1")
}

// member is a thread of a crew: its capabilities (its code and its table stand in the slots 2 and 3 of its box x), how it starts, and its code.
type member struct{ name, caps, start, code string }

// crew: threads of five pages each, from page 2 on: a root, a table, a frame, a box of 4 slots, itself.
func crew(top string, members ...member) string {
	text := "pages 32\nturn 0 30\n" + top
	for i, x := range members {
		n := 2 + 5*i
		mine := fmt.Sprintf("root r@ %d\ntable t@ %d\nframe c@ %d\nbox x@ %d 4\nthread @ %d\ncap x@ 2 c@ x\ncap x@ 3 t@ w\n%s\ncap @ 1 r@ -\nmap x@ 3 r@ 0 -\nmap x@ 2 r@ 0 x\ncode c@ 0\n%s\nstop\nstart @ 0 %s\n", n, n+1, n+2, n+3, n+4, x.caps, x.code, x.start)
		text += strings.ReplaceAll(mine, "@", x.name)
	}
	return text
}

// meeting: a thread that gets, one that hears, one that calls.
func meeting() string {
	return crew("end e 0\nbell g 1\nuntyped u 24 3\nirq i 3\nbind i g 64\n",
		member{"p", "cap xp 0 e rwg\ncap xp 1 g r badge 3\ncap p 0 xp - guard 0 30", "7 ready 0 x31 0x80000000 x1 9", "li x10, 0\nli x17, 4\necall"},
		member{"q", "cap xq 0 e r badge 0xffffffff from xp 0\ncap xq 1 g r badge 3 from xp 1\ncap q 0 xq rwg guard 0x3ffffffe 30", "6 ready 0", "li x10, -7\nli x17, 10\necall"},
		member{"s", "cap xs 0 e rw badge 8 from xp 0\ncap s 0 xs - guard 0 30", "5 ready 0", "li x10, 0\nli x17, 3\necall"})
}

// TestViewOfThreads: who waits, and where, and for whom; numbers below 0, and great ones.
func TestViewOfThreads(t *testing.T) {
	s := boot(t, meeting())
	tells(t, s, 24, 25, 0, 0, 0, "untyped 792 0")
	tells(t, s, 25, 32, 0, 0, 0)
	tells(t, s, 6, 7, 0, 0, 0, "thread 6 1 0 7 -1 -1 -1 5 0", " x1 9", " x31 2147483648", "cap 6 0 5 5 0 0 0 30 0 0 from -1 -1", "cap 6 1 4 2 0 0 0 0 0 0 from -1 -1")
	tells(t, s, 0, 0, 0, 0, 1, "queue 0 0 ", "queue 0 1 ", "queue 0 2 ", "queue 0 3 ", "queue 0 4 ", "queue 0 5 16", "queue 0 6 11", "queue 0 7 6")
	run(t, s, 10, 10)
	tells(t, s, 0, 2, 8, 0, 0, "place 7 0 0 6", "place 8 1 0 11", "irq 3 1 64 false false")
	tells(t, s, 10, 12, 0, 0, 0, "box 10 4",
		"thread 11 6 0 6 1 -1 -1 0 20", " x10 4294967289", " x17 10",
		"cap 10 0 7 0 1 4294967295 0 0 0 0 from 5 0", "cap 10 1 8 1 1 3 0 0 0 0 from 5 1", "cap 10 2 2 9 4 0 0 0 8 0 from -1 -1", "cap 10 3 3 8 2 0 0 0 8 0 from -1 -1",
		"cap 11 0 5 10 7 0 1073741822 30 0 0 from -1 -1", "cap 11 1 4 7 0 0 0 0 0 0 from -1 -1")
	run(t, s, 5, 5)
	tells(t, s, 0, 1, 0, 0, 0, "place 7 0 0 ")
	tells(t, s, 6, 7, 0, 0, 0, "thread 6 1 0 7 -1 16 -1 5 20", " x1 9", " x16 8", " x31 2147483648", "cap 6 0 5 5 0 0 0 30 0 0 from -1 -1", "cap 6 1 4 2 0 0 0 0 0 0 from -1 -1")
	tells(t, s, 16, 17, 0, 0, 0, "thread 16 5 0 5 -1 -1 6 0 20", " x17 3", "cap 16 0 5 15 0 0 0 30 0 0 from -1 -1", "cap 16 1 4 12 0 0 0 0 0 0 from -1 -1")
}

// TestViewOfLines: several threads that wait, or are ready, are one word.
func TestViewOfLines(t *testing.T) {
	var l []member
	for _, name := range []string{"p", "q", "s", "v"} {
		l = append(l, member{name, "cap x@ 0 e r\ncap x@ 1 g r\ncap @ 0 x@ - guard 0 30", "3 ready 0", "li x10, 0\nli x17, 4\necall"})
	}
	l[1].code = "li x10, 1\nli x17, 10\necall"
	s := boot(t, crew("end e 0\nbell g 1\n", l...))
	queue := func(word string) []string {
		return []string{"queue 0 0 ", "queue 0 1 ", "queue 0 2 ", "queue 0 3 " + word, "queue 0 4 ", "queue 0 5 ", "queue 0 6 ", "queue 0 7 "}
	}
	tells(t, s, 0, 0, 0, 0, 1, queue("6,11,16,21")...)
	run(t, s, 10, 10)
	tells(t, s, 0, 2, 0, 0, 1, append([]string{"place 7 0 0 6", "place 8 1 0 11"}, queue("16,21")...)...)
	run(t, s, 30, 10)
	tells(t, s, 0, 2, 0, 0, 1, append([]string{"place 7 0 0 6,16,21", "place 8 1 0 11"}, queue("")...)...)
}

func TestViewOfInterrupts(t *testing.T) {
	s := boot(t, meeting())
	s.Raise(3)
	tells(t, s, 1, 2, 8, 0, 0, "place 8 1 64 ", "irq 3 1 64 true false")
	s.Raise(3)
	s.Raise(2)
	tells(t, s, 1, 2, 12, 0, 0, "place 8 1 64 ", "irq 2 -1 0 false false", "irq 3 1 64 true true")
}

// lone is a thread with a box of 16 slots that its code names by their indices, a root in slot 3, and a port in the last of them.
func lone(code string) string {
	return "pages 16\nturn 0 9\nroot r 0\ntable t 1\nframe c 2\nbox x 3 16\nthread h 4\nuntyped u 8 3\nport p 5\ncap x 0 u rwg\ncap x 1 c rx\ncap x 2 t rw\ncap x 3 r rw\ncap x 15 p rw\ncap h 0 x rw guard 0 28\ncap h 1 r rw\nmap x 2 r 0 -\nmap x 1 r 0 rx\ncode c 0\n" + code + "\nstop\nstart h 0 0 ready 0"
}

func TestViewOfPorts(t *testing.T) {
	s := boot(t, lone("li x10, 15\nli x11, 0xfa\nli x17, 28\necall\nli x10, 15\nli x11, 7\necall\nli x10, 15\nli x17, 29\necall"))
	s.Feed(5, "\x00\x7f\xff")
	s.Feed(7, "z")
	run(t, s, 12, 12)
	tells(t, s, 0, 0, 0, 0xffffffe0, 0, "port 5 007fff fa07", "port 6  ", "port 7 7a ")
	run(t, s, 5, 5)
	tells(t, s, 0, 0, 0, 32, 0, "port 5 7fff fa07")
	s.Drain(5)
	tells(t, s, 0, 0, 0, 32, 0, "port 5 7fff ")
}

// TestViewOfWhatCame: an untyped is told where its first page is, what is made of it where its own is; by kinds, and then by numbers.
func TestViewOfWhatCame(t *testing.T) {
	s := boot(t, lone("li x10, 0\nli x11, 1\nli x12, 1\nli x13, 4\nli x14, 1\nli x17, 12\necall\nli x11, 6\nli x12, 0\nli x13, 5\necall\nli x11, 2\nli x13, 6\nli x14, 2\necall\nli x10, 4\nli x11, 1\nli x13, 8\nli x14, 1\necall"))
	run(t, s, 13, 13)
	tells(t, s, 8, 16, 0, 0, 0, "untyped 264 0", "untyped 776 2")
	run(t, s, 7, 7)
	tells(t, s, 10, 16, 0, 0, 0, "thread 10 0 0 0 -1 -1 -1 0 0")
	run(t, s, 16, 16)
	tells(t, s, 8, 9, 0, 0, 0, "untyped 8 0", "untyped 264 1", "untyped 776 5")
	tells(t, s, 9, 16, 0, 0, 0, "page 2 11", "page 2 12", "thread 10 0 0 0 -1 -1 -1 0 0")
	if v := all(t, s); !strings.Contains(v, "\ncap 3 6 2 11 7 0 0 0 0 0 from 3 0\ncap 3 7 2 12 7 0 0 0 0 0 from 3 0\ncap 3 8 1 8 7 0 0 0 0 0 from 3 4\ncap 3 15") {
		t.Errorf("the capabilities are not told so:\n%s", v)
	}
}

// TestViewByBits: bit n for number n, and no bits beyond; what is of one number stands together.
func TestViewByBits(t *testing.T) {
	s := boot(t, "pages 1\nturn 0 1")
	for n := range 32 {
		var irq, port, queues []string
		if n < 8 {
			irq = []string{fmt.Sprintf("irq %d -1 0 false false", n)}
			port = []string{fmt.Sprintf("port %d  ", n)}
			for prio := range 8 {
				queues = append(queues, fmt.Sprintf("queue %d %d ", n, prio))
			}
		}
		bit := uint32(1) << n
		tells(t, s, 0, 1, bit, 0, 0, irq...)
		tells(t, s, 0, 1, 0, bit, 0, port...)
		tells(t, s, 0, 1, 0, 0, bit, queues...)
		tells(t, s, 0, 1, bit, bit, bit, slices.Concat(irq, port, queues)...)
	}
	tells(t, s, 0, 1, 6, 5, 0, "port 0  ", "irq 1 -1 0 false false", "irq 2 -1 0 false false", "port 2  ")
}
