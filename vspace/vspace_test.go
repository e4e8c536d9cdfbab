package vspace_test

import (
	"math"
	"slices"
	"testing"

	"vault/api"
	"vault/mem"
	"vault/mmu"
	"vault/vspace"
)

// absent are numbers of pages that no memory has; a product with the great ones wraps round to a place that is there.
var absent = []int{-1, -2, 256, 257, 1 << 20, 1 << 22, 1 << 32, 1<<32 + 1, 1 << 52, 1<<52 + 1, 1<<54 + 2, -1 << 52, math.MaxInt, math.MinInt}

func memory(t *testing.T, pages int) *mem.Memory {
	t.Helper()
	m, e := mem.New(pages)
	if m == nil || e != api.OK {
		t.Fatalf("New(%d): %d", pages, e)
	}
	return m
}

func set(t *testing.T, m *mem.Memory, page, number int, w uint32) {
	t.Helper()
	if e := m.SetWord(page*4096+number*4, w); e != api.OK {
		t.Fatalf("SetWord of page %d, number %d: %d", page, number, e)
	}
}

func word(t *testing.T, m *mem.Memory, page, number int, want uint32) {
	t.Helper()
	if w, e := m.Word(page*4096 + number*4); w != want || e != api.OK {
		t.Errorf("word %d of page %d is %#x, wanted %#x", number, page, w, want)
	}
}

func whole(m *mem.Memory) string {
	s, _ := m.Read(0, m.Pages()*api.PageLen)
	return s
}

func is(t *testing.T, what string, e, want api.Errno) {
	t.Helper()
	if e != want {
		t.Errorf("%s: %d, wanted %d", what, e, want)
	}
}

// refused asks also that the memory is as it was.
func refused(t *testing.T, m *mem.Memory, what string, want api.Errno, call func() api.Errno) {
	t.Helper()
	before := whole(m)
	is(t, what, call(), want)
	if whole(m) != before {
		t.Errorf("%s changed the memory", what)
	}
}

func tables(t *testing.T, m *mem.Memory, root int, want ...api.Mapping) {
	t.Helper()
	if l, e := vspace.Tables(m, root); e != api.OK || !slices.Equal(l, want) {
		t.Errorf("Tables(%d): %v, %d, wanted %v", root, l, e, want)
	}
}

func mappings(t *testing.T, m *mem.Memory, root int, want ...api.Mapping) {
	t.Helper()
	if l, e := vspace.Mappings(m, root); e != api.OK || !slices.Equal(l, want) {
		t.Errorf("Mappings(%d): %v, %d, wanted %v", root, l, e, want)
	}
}

func TestExamples(t *testing.T) {
	m := memory(t, 8)
	is(t, "Table", vspace.Table(m, 1, 0x400000, 2), api.OK)
	is(t, "Map", vspace.Map(m, 1, 0x401000, 5, 3), api.OK)
	mappings(t, m, 1, api.Mapping{Va: 0x401000, Page: 5, Rights: 3})
	if p, c := mmu.Walk(m, 1, 0x401004, api.Store); p != 5*4096+4 || c != api.None {
		t.Errorf("Walk: %d, %d", p, c)
	}
	is(t, "Map again", vspace.Map(m, 1, 0x401000, 5, 3), api.ErrTwice)
	is(t, "Map without a table", vspace.Map(m, 1, 0x1000, 5, 3), api.ErrTable)
	is(t, "Map with rights 2", vspace.Map(m, 1, 0x402000, 5, 2), api.ErrRight)
	is(t, "Unmap of another", vspace.Unmap(m, 1, 0x401000, 6), api.ErrName)
}

// TestEntries: which words are written, of which pages, and what.
func TestEntries(t *testing.T) {
	for _, first := range []int{0, 1, 2, 511, 512, 1022, 1023} {
		for _, second := range []int{0, 1, 2, 511, 512, 1022, 1023} {
			m := memory(t, 256)
			blank := whole(m)
			base := uint32(first) << 22
			va := base | uint32(second)<<12
			is(t, "Table", vspace.Table(m, 3, va|0xabc, 255), api.OK)
			word(t, m, 3, first, 255*1024+1)
			is(t, "Map", vspace.Map(m, 3, va, 254, 1), api.OK)
			word(t, m, 255, second, 254*1024+0x53)
			tables(t, m, 3, api.Mapping{Va: base, Page: 255})
			mappings(t, m, 3, api.Mapping{Va: va, Page: 254, Rights: 1})
			is(t, "Unmap", vspace.Unmap(m, 3, va, 254), api.OK)
			word(t, m, 255, second, 0)
			is(t, "NoTable", vspace.NoTable(m, 3, base|0x3fffff, 255), api.OK)
			if whole(m) != blank {
				t.Errorf("%#x: something is left, or something else was written", va)
			}
		}
	}
}

// TestRights: every number of rights, the entry that it makes, and what Walk then lets through.
func TestRights(t *testing.T) {
	wants := map[int]uint32{1: 0x53, 3: 0xd7, 4: 0x59, 5: 0x5b, 7: 0xdf}
	for _, r := range []int{math.MinInt, -8, -1, 0, 1, 2, 3, 4, 5, 6, 7, 8, 9, 11, 15, 1<<32 + 3, 1 << 62, math.MaxInt} {
		m := memory(t, 8)
		is(t, "Table", vspace.Table(m, 1, 0, 2), api.OK)
		bits := wants[r]
		if bits == 0 {
			refused(t, m, "Map with a right that may not be", api.ErrRight, func() api.Errno { return vspace.Map(m, 1, 0x3000, 5, r) })
			continue
		}
		is(t, "Map", vspace.Map(m, 1, 0x3000, 5, r), api.OK)
		word(t, m, 2, 3, 5*1024+bits)
		mappings(t, m, 1, api.Mapping{Va: 0x3000, Page: 5, Rights: r})
		for use, bit := range map[int]int{api.Fetch: api.Exec, api.Load: api.Read, api.Store: api.Write} {
			if _, c := mmu.Walk(m, 1, 0x3000, use); (c == api.None) != (r&bit != 0) {
				t.Errorf("rights %d, use %d: Walk's cause is %d", r, use, c)
			}
		}
	}
}

// TestPages: pages that are not there are told ahead of all else.
func TestPages(t *testing.T) {
	m := memory(t, 256)
	is(t, "Table", vspace.Table(m, 1, 0, 2), api.OK)
	is(t, "Map", vspace.Map(m, 1, 0, 3, 1), api.OK)
	for _, p := range absent {
		for what, call := range map[string]func() api.Errno{
			"Table, root":    func() api.Errno { return vspace.Table(m, p, 0x400000, 2) },
			"Table, table":   func() api.Errno { return vspace.Table(m, 1, 0x400000, p) },
			"Table, twice":   func() api.Errno { return vspace.Table(m, 1, 0, p) },
			"NoTable, root":  func() api.Errno { return vspace.NoTable(m, p, 0, 2) },
			"NoTable, table": func() api.Errno { return vspace.NoTable(m, 1, 0, p) },
			"Map, root":      func() api.Errno { return vspace.Map(m, p, 0, 3, 0) },
			"Map, frame":     func() api.Errno { return vspace.Map(m, 1, 0x800000, p, 0) },
			"Unmap, root":    func() api.Errno { return vspace.Unmap(m, p, 0, 3) },
			"Unmap, frame":   func() api.Errno { return vspace.Unmap(m, 1, 0, p) },
			"Unmap, nowhere": func() api.Errno { return vspace.Unmap(m, 1, 0x800000, p) },
			"Tables":         func() api.Errno { _, e := vspace.Tables(m, p); return e },
			"Mappings":       func() api.Errno { _, e := vspace.Mappings(m, p); return e },
		} {
			refused(t, m, what, api.ErrArg, call)
		}
		if l, _ := vspace.Tables(m, p); len(l) != 0 {
			t.Errorf("Tables(%d): %v with an error", p, l)
		}
		if l, _ := vspace.Mappings(m, p); len(l) != 0 {
			t.Errorf("Mappings(%d): %v with an error", p, l)
		}
	}
}

// TestEnds: the last page is there, and the next is not, whatever the memory's size.
func TestEnds(t *testing.T) {
	for _, n := range []int{1, 2, 3, 255, 256} {
		m := memory(t, n)
		is(t, "Table at the end", vspace.Table(m, n-1, 0, n), api.ErrArg)
		is(t, "Table of the end", vspace.Table(m, n, 0, n-1), api.ErrArg)
		is(t, "Table", vspace.Table(m, n-1, 0, n-1), api.OK)
		is(t, "Map", vspace.Map(m, n-1, 0x1000, n, 1), api.ErrArg)
		is(t, "Map", vspace.Map(m, n-1, 0x1000, n-1, 1), api.OK)
		is(t, "Unmap", vspace.Unmap(m, n-1, 0x1000, n), api.ErrArg)
		is(t, "Unmap", vspace.Unmap(m, n-1, 0x1000, n-1), api.OK)
		is(t, "NoTable", vspace.NoTable(m, n-1, 0, n-1), api.OK)
	}
}

// TestWithin: an address within a page is refused for frames alone, ahead of rights and tables.
func TestWithin(t *testing.T) {
	m := memory(t, 8)
	is(t, "Table", vspace.Table(m, 1, 0x400000, 2), api.OK)
	is(t, "Map", vspace.Map(m, 1, 0x401000, 5, 3), api.OK)
	for _, off := range []uint32{1, 2, 4, 0x400, 0x800, 0xfff} {
		for _, base := range []uint32{0x401000, 0x402000, 0x1000, 0xfffff000} {
			for r := range 9 {
				refused(t, m, "Map within a page", api.ErrArg, func() api.Errno { return vspace.Map(m, 1, base+off, 5, r) })
			}
			refused(t, m, "Unmap within a page", api.ErrArg, func() api.Errno { return vspace.Unmap(m, 1, base+off, 5) })
		}
	}
}

// TestNoTable: what is no table for va, by the ten lowest bits and by the page; Table refuses all that is not 0.
func TestNoTable(t *testing.T) {
	m := memory(t, 4)
	for _, number := range []uint32{0, 1, 3, 4, 5, 1 << 10, 1<<10 + 1, 1 << 20, 1<<20 + 1, 1<<22 - 1} {
		for bits := range uint32(1024) {
			set(t, m, 2, 7, number<<10|bits)
			if bits == 1 && number < 4 {
				tables(t, m, 2, api.Mapping{Va: 7 << 22, Page: int(number)})
				continue
			}
			tables(t, m, 2)
			mappings(t, m, 2)
			for p := range 4 {
				is(t, "NoTable", vspace.NoTable(m, 2, 7<<22, p), api.ErrTable)
			}
			is(t, "Map", vspace.Map(m, 2, 7<<22, 3, 1), api.ErrTable)
			is(t, "Unmap", vspace.Unmap(m, 2, 7<<22, 3), api.ErrTable)
			want := api.ErrTwice
			if number == 0 && bits == 0 {
				want = api.OK
			}
			word(t, m, 2, 7, number<<10|bits)
			is(t, "Table", vspace.Table(m, 2, 7<<22, 3), want)
		}
	}
}

// TestFrameEntries: an entry of a frame in every way that its lowest bits may stand.
func TestFrameEntries(t *testing.T) {
	m := memory(t, 8)
	is(t, "Table", vspace.Table(m, 1, 0, 2), api.OK)
	for _, number := range []uint32{0, 5, 6, 8, 1<<20 + 5, 1<<22 - 1} {
		for bits := range uint32(1024) {
			w := number<<10 | bits
			set(t, m, 2, 9, w)
			if bits&1 != 0 {
				mappings(t, m, 1, api.Mapping{Va: 0x9000, Page: int(number), Rights: int(bits >> 1 & 7)})
			} else {
				mappings(t, m, 1)
			}
			if w != 0 {
				is(t, "Map", vspace.Map(m, 1, 0x9000, 5, 3), api.ErrTwice)
			}
			want, left := api.ErrName, w
			if bits&1 != 0 && number == 5 {
				want, left = api.OK, 0
			}
			is(t, "Unmap", vspace.Unmap(m, 1, 0x9000, 5), want)
			word(t, m, 2, 9, left)
		}
	}
}

// TestOrder: of errors that would all be right, the first that the chapter tells.
func TestOrder(t *testing.T) {
	m := memory(t, 8)
	is(t, "Map without right or table", vspace.Map(m, 1, 0, 5, 6), api.ErrRight)
	is(t, "Table", vspace.Table(m, 1, 0, 2), api.OK)
	is(t, "Map", vspace.Map(m, 1, 0, 5, 3), api.OK)
	is(t, "Map without right, again", vspace.Map(m, 1, 0, 5, 0), api.ErrRight)
	is(t, "Map of another, again", vspace.Map(m, 1, 0, 6, 1), api.ErrTwice)
	is(t, "Table of the same, again", vspace.Table(m, 1, 0x3fffff, 2), api.ErrTwice)
	is(t, "Unmap without a table", vspace.Unmap(m, 1, 0x400000, 5), api.ErrTable)
	is(t, "Unmap of nothing", vspace.Unmap(m, 1, 0x1000, 5), api.ErrName)
	is(t, "Unmap of nothing, page 0", vspace.Unmap(m, 1, 0x1000, 0), api.ErrName)
	is(t, "NoTable of another", vspace.NoTable(m, 1, 0, 3), api.ErrTable)
	is(t, "NoTable of nothing, page 0", vspace.NoTable(m, 1, 0x400000, 0), api.ErrTable)
}

// TestShared: a table may serve many places, and many roots; NoTable does not look at what it maps.
func TestShared(t *testing.T) {
	m := memory(t, 8)
	for _, at := range []struct {
		root int
		va   uint32
	}{{1, 0xffc00000}, {1, 0}, {1, 0x80000000}, {2, 0x400000}} {
		is(t, "Table", vspace.Table(m, at.root, at.va, 3), api.OK)
	}
	is(t, "Map", vspace.Map(m, 1, 0xfffff000, 4, 5), api.OK)
	is(t, "Map", vspace.Map(m, 2, 0x400000, 5, 7), api.OK)
	is(t, "Map", vspace.Map(m, 1, 0, 6, 7), api.ErrTwice)
	tables(t, m, 1, api.Mapping{Va: 0, Page: 3}, api.Mapping{Va: 0x80000000, Page: 3}, api.Mapping{Va: 0xffc00000, Page: 3})
	mappings(t, m, 1,
		api.Mapping{Va: 0, Page: 5, Rights: 7}, api.Mapping{Va: 0x3ff000, Page: 4, Rights: 5},
		api.Mapping{Va: 0x80000000, Page: 5, Rights: 7}, api.Mapping{Va: 0x803ff000, Page: 4, Rights: 5},
		api.Mapping{Va: 0xffc00000, Page: 5, Rights: 7}, api.Mapping{Va: 0xfffff000, Page: 4, Rights: 5})
	mappings(t, m, 2, api.Mapping{Va: 0x400000, Page: 5, Rights: 7}, api.Mapping{Va: 0x7ff000, Page: 4, Rights: 5})
	is(t, "NoTable", vspace.NoTable(m, 1, 0x80000000, 3), api.OK)
	word(t, m, 3, 0, 5*1024+0xdf)
	word(t, m, 3, 1023, 4*1024+0x5b)
	tables(t, m, 1, api.Mapping{Va: 0, Page: 3}, api.Mapping{Va: 0xffc00000, Page: 3})
	is(t, "Unmap", vspace.Unmap(m, 2, 0x400000, 5), api.OK)
	mappings(t, m, 1, api.Mapping{Va: 0x3ff000, Page: 4, Rights: 5}, api.Mapping{Va: 0xfffff000, Page: 4, Rights: 5})
}

// TestSelf: a root may be its own table, and its own frame.
func TestSelf(t *testing.T) {
	m := memory(t, 1)
	is(t, "Table", vspace.Table(m, 0, 0, 0), api.OK)
	word(t, m, 0, 0, 1)
	tables(t, m, 0, api.Mapping{})
	mappings(t, m, 0, api.Mapping{})
	is(t, "Map", vspace.Map(m, 0, 0, 0, 1), api.ErrTwice)
	is(t, "Map", vspace.Map(m, 0, 0x1000, 0, 3), api.OK)
	tables(t, m, 0, api.Mapping{})
	mappings(t, m, 0, api.Mapping{}, api.Mapping{Va: 0x1000, Rights: 3})
	is(t, "Unmap", vspace.Unmap(m, 0, 0, 0), api.OK)
	tables(t, m, 0)
	mappings(t, m, 0)
	is(t, "Unmap", vspace.Unmap(m, 0, 0x1000, 0), api.ErrTable)
}

// TestFull: as many places as there are, each told once and in order.
func TestFull(t *testing.T) {
	m := memory(t, 256)
	for i := range uint32(1024) {
		is(t, "Table", vspace.Table(m, 0, i<<22, 1+int(i%2)), api.OK)
	}
	for i := range uint32(2048) {
		is(t, "Map", vspace.Map(m, 0, i<<12, int(i%256), 1), api.OK)
	}
	l, e := vspace.Mappings(m, 0)
	if e != api.OK || len(l) != 1<<20 {
		t.Fatalf("Mappings: %d of them, %d", len(l), e)
	}
	for i, x := range l {
		if want := (api.Mapping{Va: uint32(i) << 12, Page: i % 256, Rights: 1}); x != want {
			t.Fatalf("mapping %d is %v, wanted %v", i, x, want)
		}
	}
	if l, e := vspace.Tables(m, 0); e != api.OK || len(l) != 1024 || l[1023] != (api.Mapping{Va: 1023 << 22, Page: 2}) {
		t.Errorf("Tables: %d of them, %d", len(l), e)
	}
}

// TestLists: an answer is the caller's, and looking changes nothing.
func TestLists(t *testing.T) {
	m := memory(t, 8)
	is(t, "Table", vspace.Table(m, 1, 0, 2), api.OK)
	is(t, "Map", vspace.Map(m, 1, 0x1000, 5, 3), api.OK)
	before := whole(m)
	for _, call := range []func(*mem.Memory, int) ([]api.Mapping, api.Errno){vspace.Tables, vspace.Mappings} {
		a, _ := call(m, 1)
		b, _ := call(m, 1)
		kept := slices.Clone(b)
		for i := range a[:cap(a)] {
			a[:cap(a)][i] = api.Mapping{Va: 9, Page: 9, Rights: 9}
		}
		c, _ := call(m, 1)
		if !slices.Equal(b, kept) || !slices.Equal(c, kept) {
			t.Errorf("an answer shares memory: %v, %v, wanted %v", b, c, kept)
		}
	}
	if whole(m) != before {
		t.Error("looking changed the memory")
	}
}
