package mem_test

import (
	"bytes"
	"math/rand"
	"strings"
	"testing"

	"vault/api"
	"vault/mem"
)

// flat is a memory by the chapter's words: bytes in one row.
type flat struct {
	row []byte
}

func (f *flat) read(at, n int) (string, api.Errno) {
	if !there(at, n, len(f.row)) {
		return "", api.ErrArg
	}
	return string(f.row[at : at+n]), api.OK
}

func (f *flat) write(at int, data string) api.Errno {
	if !there(at, len(data), len(f.row)) {
		return api.ErrArg
	}
	for i := range len(data) {
		f.row[at+i] = data[i]
	}
	return api.OK
}

func (f *flat) word(at int) (uint32, api.Errno) {
	s, e := f.read(at, 4)
	if at%4 != 0 || e != api.OK {
		return 0, api.ErrArg
	}
	return uint32(s[0]) + 256*(uint32(s[1])+256*(uint32(s[2])+256*uint32(s[3]))), api.OK
}

func (f *flat) setWord(at int, w uint32) api.Errno {
	if at%4 != 0 {
		return api.ErrArg
	}
	return f.write(at, string([]byte{byte(w % 256), byte(w / 256 % 256), byte(w / 65536 % 256), byte(w / 16777216)}))
}

func (f *flat) zero(p int) api.Errno {
	if p < 0 || p >= len(f.row)/4096 {
		return api.ErrArg
	}
	return f.write(p*4096, strings.Repeat("\x00", 4096))
}

func (f *flat) same(p, q int) (bool, api.Errno) {
	n := len(f.row) / 4096
	if p < 0 || p >= n || q < 0 || q >= n {
		return false, api.ErrArg
	}
	return bytes.Equal(f.row[p*4096:p*4096+4096], f.row[q*4096:q*4096+4096]), api.OK
}

// place is mostly in memory, often about a page's bound.
func place(r *rand.Rand, pages int) int {
	switch r.Intn(4) {
	case 0:
		return r.Intn(pages+1)*4096 + r.Intn(17) - 8
	case 1:
		return 4 * r.Intn(pages*1024)
	case 2:
		return r.Intn(pages*4096+20) - 10
	}
	return r.Intn(pages) * 4096
}

func step(t *testing.T, r *rand.Rand, m *mem.Memory, f *flat) {
	at, n := place(r, m.Pages()), r.Intn(40)
	if r.Intn(8) == 0 {
		n = r.Intn(3*4096) - 3
	}
	p, q := r.Intn(m.Pages()+2)-1, r.Intn(m.Pages()+2)-1
	switch r.Intn(6) {
	case 0:
		got, e := m.Read(at, n)
		want, we := f.read(at, n)
		if got != want || e != we {
			t.Fatalf("Read(%d, %d): %q, %d, wanted %q, %d", at, n, got, e, want, we)
		}
	case 1:
		data := strings.Repeat(string([]byte{byte(r.Intn(3)), byte(r.Intn(256))}), max(n, 0)/2)
		if e, we := m.Write(at, data), f.write(at, data); e != we {
			t.Fatalf("Write(%d, %d bytes): %d, wanted %d", at, len(data), e, we)
		}
	case 2:
		got, e := m.Word(at)
		want, we := f.word(at)
		if got != want || e != we {
			t.Fatalf("Word(%d): %#x, %d, wanted %#x, %d", at, got, e, want, we)
		}
	case 3:
		w := r.Uint32()
		if e, we := m.SetWord(at, w), f.setWord(at, w); e != we {
			t.Fatalf("SetWord(%d, %#x): %d, wanted %d", at, w, e, we)
		}
	case 4:
		if e, we := m.Zero(p), f.zero(p); e != we {
			t.Fatalf("Zero(%d): %d, wanted %d", p, e, we)
		}
	case 5:
		got, e := m.Same(p, q)
		want, we := f.same(p, q)
		if got != want || e != we {
			t.Fatalf("Same(%d, %d): %v, %d, wanted %v, %d", p, q, got, e, want, we)
		}
	}
}

func TestAgainstRow(t *testing.T) {
	r := rand.New(rand.NewSource(4))
	for _, pages := range []int{1, 2, 3, 5, 256} {
		for range 20 {
			m, f := memory(t, pages), &flat{row: make([]byte, pages*4096)}
			for range 300 {
				step(t, r, m, f)
			}
			if whole(t, m) != string(f.row) {
				t.Fatalf("of %d pages: other bytes at the end", pages)
			}
		}
	}
}
