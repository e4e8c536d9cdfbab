package mem_test

import (
	"math"
	"strings"
	"testing"

	"vault/api"
	"vault/mem"
)

func memory(t *testing.T, pages int) *mem.Memory {
	t.Helper()
	m, e := mem.New(pages)
	if m == nil || e != api.OK {
		t.Fatalf("New(%d): %v, %d", pages, m, e)
	}
	return m
}

// whole is all that a memory holds.
func whole(t *testing.T, m *mem.Memory) string {
	t.Helper()
	s, e := m.Read(0, m.Pages()*4096)
	if e != api.OK || len(s) != m.Pages()*4096 {
		t.Fatalf("Read of all: %d bytes, %d", len(s), e)
	}
	return s
}

func TestNew(t *testing.T) {
	for _, n := range []int{0, -1, 257, 258, 1 << 32, 1<<32 + 1, math.MaxInt, math.MinInt} {
		if m, e := mem.New(n); m != nil || e != api.ErrArg {
			t.Errorf("New(%d): %v, %d, wanted nil and ErrArg", n, m, e)
		}
	}
	for n := 1; n <= 256; n++ {
		m := memory(t, n)
		if m.Pages() != n {
			t.Errorf("New(%d) has %d pages", n, m.Pages())
		}
		if whole(t, m) != strings.Repeat("\x00", n*4096) {
			t.Errorf("New(%d) is not all 0", n)
		}
	}
}

// numbers are those about the edges of memories, and those at which sums and products wrap round.
func numbers(length int) []int {
	near := []int{0, 4096, 8192, length, 1 << 20, 1 << 31, 1 << 32, 1<<32 + length, 1 << 52, 1 << 62, math.MaxInt - 10, math.MinInt + 10}
	var all []int
	for _, n := range near {
		for d := -10; d <= 10; d++ {
			all = append(all, n+d, -n+d)
		}
	}
	return all
}

// there tells by its own words whether n bytes stand from a place on.
func there(at, n, length int) bool {
	if n < 0 || at < 0 || at > length {
		return false
	}
	if n == 0 {
		return true
	}
	return n <= length && at <= length-n
}

func TestReadThere(t *testing.T) {
	for _, pages := range []int{1, 2, 3} {
		m := memory(t, pages)
		for _, at := range numbers(pages * 4096) {
			for _, n := range numbers(pages * 4096) {
				s, e := m.Read(at, n)
				if there(at, n, pages*4096) {
					if e != api.OK || s != strings.Repeat("\x00", n) {
						t.Errorf("of %d pages Read(%d, %d): %d bytes, %d", pages, at, n, len(s), e)
					}
				} else if e != api.ErrArg || s != "" {
					t.Errorf("of %d pages Read(%d, %d): %d bytes, %d, wanted ErrArg", pages, at, n, len(s), e)
				}
			}
		}
	}
}

func TestWriteThere(t *testing.T) {
	for _, pages := range []int{1, 2} {
		length := pages * 4096
		for _, n := range []int{0, 1, 2, 3, 4095, 4096, 4097, length - 1, length, length + 1, 3 * length} {
			data := strings.Repeat("x", n)
			for _, at := range numbers(length) {
				m := memory(t, pages)
				e := m.Write(at, data)
				want := strings.Repeat("\x00", length)
				if there(at, n, length) {
					want = want[:at] + data + want[at+n:]
					if e != api.OK {
						t.Errorf("of %d pages Write(%d, %d bytes): %d", pages, at, n, e)
					}
				} else if e != api.ErrArg {
					t.Errorf("of %d pages Write(%d, %d bytes): %d, wanted ErrArg", pages, at, n, e)
				}
				if whole(t, m) != want {
					t.Errorf("of %d pages Write(%d, %d bytes) leaves other bytes", pages, at, n)
				}
			}
		}
	}
}

func TestWordThere(t *testing.T) {
	for _, pages := range []int{1, 2} {
		length := pages * 4096
		for _, at := range numbers(length) {
			m := memory(t, pages)
			m.Write(0, strings.Repeat("\x11", length))
			can := at%4 == 0 && there(at, 4, length)
			if w, e := m.Word(at); can && (w != 0x11111111 || e != api.OK) || !can && (w != 0 || e != api.ErrArg) {
				t.Errorf("of %d pages Word(%d): %#x, %d", pages, at, w, e)
			}
			want := strings.Repeat("\x11", length)
			if can {
				want = want[:at] + "\x67\x45\x23\x81" + want[at+4:]
			}
			if e := m.SetWord(at, 0x81234567); can != (e == api.OK) || !can && e != api.ErrArg {
				t.Errorf("of %d pages SetWord(%d): %d", pages, at, e)
			}
			if whole(t, m) != want {
				t.Errorf("of %d pages SetWord(%d) leaves other bytes", pages, at)
			}
		}
	}
}

func TestWordOrder(t *testing.T) {
	m := memory(t, 1)
	if e := m.Write(0, "\x01\x02\x03\x04\xff\x00\x00\x80"); e != api.OK {
		t.Fatalf("Write: %d", e)
	}
	for at, want := range map[int]uint32{0: 0x04030201, 4: 0x800000ff, 8: 0} {
		if w, e := m.Word(at); w != want || e != api.OK {
			t.Errorf("Word(%d): %#x, %d, wanted %#x", at, w, e, want)
		}
	}
	for _, w := range []uint32{0, 1, 0x80, 0xff00, 0x7fffffff, 0x80000000, 0xfffffffe, 0xffffffff} {
		m.SetWord(4092, w)
		if got, e := m.Word(4092); got != w || e != api.OK {
			t.Errorf("behind SetWord(4092, %#x) Word is %#x, %d", w, got, e)
		}
	}
}

func TestZeroAndSameThere(t *testing.T) {
	m := memory(t, 2)
	full := strings.Repeat("z", 8192)
	m.Write(0, full)
	for _, p := range numbers(2) {
		if p == 0 || p == 1 {
			continue
		}
		if e := m.Zero(p); e != api.ErrArg || whole(t, m) != full {
			t.Errorf("Zero(%d): %d", p, e)
		}
		for _, x := range [][2]int{{p, 0}, {1, p}, {p, p}, {p, -p}} {
			if same, e := m.Same(x[0], x[1]); same || e != api.ErrArg {
				t.Errorf("Same(%d, %d): %v, %d, wanted ErrArg", x[0], x[1], same, e)
			}
		}
	}
}

func TestZero(t *testing.T) {
	m := memory(t, 3)
	m.Write(0, strings.Repeat("z", 12288))
	if e := m.Zero(1); e != api.OK {
		t.Errorf("Zero(1): %d", e)
	}
	if want := strings.Repeat("z", 4096) + strings.Repeat("\x00", 4096) + strings.Repeat("z", 4096); whole(t, m) != want {
		t.Error("Zero(1) leaves other bytes")
	}
	if e := m.Zero(1); e != api.OK {
		t.Errorf("Zero(1) once more: %d", e)
	}
}

func TestSame(t *testing.T) {
	m := memory(t, 3)
	ask := func(p, q int, want bool) {
		t.Helper()
		if same, e := m.Same(p, q); same != want || e != api.OK {
			t.Errorf("Same(%d, %d): %v, %d, wanted %v", p, q, same, e, want)
		}
	}
	ask(0, 2, true)
	ask(1, 1, true)
	for _, at := range []int{0, 1, 2047, 4092, 4095} {
		m.Write(4096+at, "a")
		ask(0, 1, false)
		ask(1, 2, false)
		ask(1, 1, true)
		ask(0, 2, true)
		m.Write(8192+at, "a")
		ask(1, 2, true)
		m.Write(8192+at, "b")
		ask(2, 1, false)
		m.Zero(2)
		m.Zero(1)
		ask(1, 2, true)
		ask(0, 1, true)
	}
	m.Write(0, "\x00")
	ask(0, 1, true)
}

func TestAnswersStay(t *testing.T) {
	m, other := memory(t, 1), memory(t, 1)
	m.Write(0, "abcd")
	s, _ := m.Read(0, 4)
	m.SetWord(0, 0)
	m.Write(0, "wxyz")
	m.Zero(0)
	if s != "abcd" {
		t.Errorf("what was read is now %q", s)
	}
	m.Write(0, "abcd")
	if got, e := other.Read(0, 4); got != "\x00\x00\x00\x00" || e != api.OK {
		t.Errorf("another memory holds %q, %d", got, e)
	}
}
