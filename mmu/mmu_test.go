package mmu_test

import (
	"math"
	"math/rand"
	"strings"
	"testing"

	"vault/api"
	"vault/mem"
	"vault/mmu"
)

func memory(t *testing.T, pages int) *mem.Memory {
	t.Helper()
	m, e := mem.New(pages)
	if m == nil || e != api.OK {
		t.Fatalf("New(%d): %d", pages, e)
	}
	return m
}

func set(t *testing.T, m *mem.Memory, page, number int, w uint32) {
	t.Helper()
	if e := m.SetWord(page*4096+number*4, w); e != api.OK {
		t.Fatalf("SetWord of page %d, number %d: %d", page, number, e)
	}
}

func walk(t *testing.T, m *mem.Memory, root int, va uint32, use, place, why int) {
	t.Helper()
	if p, c := mmu.Walk(m, root, va, use); p != place || c != why {
		t.Errorf("Walk(%d, %#x, %d): %d, %d, wanted %d, %d", root, va, use, p, c, place, why)
	}
}

// TestExamples holds the walk against the chapter's examples.
func TestExamples(t *testing.T) {
	m := memory(t, 8)
	set(t, m, 1, 0, 2*1024+1)
	set(t, m, 2, 3, 5*1024+0xd7)
	walk(t, m, 1, 0x3010, api.Load, 5*4096+16, api.None)
	walk(t, m, 1, 0x3010, api.Store, 5*4096+16, api.None)
	walk(t, m, 1, 0x3010, api.Fetch, 0, api.FetchPage)
	set(t, m, 2, 3, 5*1024+0x57)
	walk(t, m, 1, 0x3010, api.Store, 0, api.StorePage)
	walk(t, m, 1, 0x3010, api.Load, 5*4096+16, api.None)
	set(t, m, 2, 3, 5*1024+1)
	walk(t, m, 1, 0x3010, api.Load, 0, api.LoadPage)
	set(t, m, 1, 0, 0xd7)
	walk(t, m, 1, 0x3010, api.Load, 0x3010, api.None)
}

func TestUses(t *testing.T) {
	m := memory(t, 2)
	for _, use := range []int{-1, 3, 4, 1 << 32, math.MaxInt, math.MinInt} {
		walk(t, m, 0, 0, use, 0, api.Illegal)
		walk(t, m, 9, 0, use, 0, api.Illegal)
	}
}

// TestRoots: 1<<52 and the like are pages whose first byte wraps round to a place that is there.
func TestRoots(t *testing.T) {
	m := memory(t, 2)
	set(t, m, 0, 0, 0xdf)
	set(t, m, 1, 0, 0xdf)
	for use, why := range map[int]int{api.Fetch: api.FetchAccess, api.Load: api.LoadAccess, api.Store: api.StoreAccess} {
		for _, root := range []int{-1, 2, 3, 256, 1 << 32, 1 << 52, 1<<52 + 1, -1 << 52, 1<<62 + 1, math.MaxInt, math.MinInt} {
			walk(t, m, root, 0, use, 0, why)
		}
		walk(t, m, 0, 7, use, 7, api.None)
		walk(t, m, 1, 7, use, 7, api.None)
	}
}

// has tells of a bit of an entry by its letter.
func has(entry uint32, letters string) bool {
	for _, l := range letters {
		if entry>>strings.IndexRune("VRWXUGAD", l)%2 == 0 {
			return false
		}
	}
	return true
}

func bare(entry uint32) bool {
	for _, l := range "RWXUAD" {
		if has(entry, string(l)) {
			return false
		}
	}
	return has(entry, "V")
}

// good is step 5 of the chapter, sentence by sentence.
func good(entry uint32, use int, great bool) bool {
	switch {
	case !has(entry, "V"):
		return false
	case !has(entry, "R") && !has(entry, "X"):
		return false
	case has(entry, "W") && !has(entry, "R"):
		return false
	case !has(entry, []string{"X", "R", "W"}[use]):
		return false
	case !has(entry, "U"), !has(entry, "A"):
		return false
	case use == api.Store && !has(entry, "D"):
		return false
	}
	return !great || entry>>10&1023 == 0
}

// told is the walk by the chapter's six steps.
func told(m *mem.Memory, root int, va uint32, use int) (int, int) {
	if use != api.Fetch && use != api.Load && use != api.Store {
		return 0, 2
	}
	access, fault := []int{1, 5, 7}[use], []int{12, 13, 15}[use]
	if root < 0 || root >= m.Pages() {
		return 0, access
	}
	entry, _ := m.Word(root*4096 + int(va>>22)*4)
	great, rest := true, va&0x3fffff
	if bare(entry) {
		if int(entry>>10) >= m.Pages() {
			return 0, access
		}
		entry, _ = m.Word(int(entry>>10)*4096 + int(va>>12&1023)*4)
		great, rest = false, va&0xfff
	}
	if !good(entry, use, great) {
		return 0, fault
	}
	place := uint64(entry>>10)<<12 + uint64(rest)
	if place >= uint64(m.Pages())<<12 {
		return 0, access
	}
	return int(place), -1
}

func agree(t *testing.T, m *mem.Memory, root int, va uint32, use int) {
	t.Helper()
	place, why := told(m, root, va, use)
	if p, c := mmu.Walk(m, root, va, use); p != place || c != why {
		t.Fatalf("Walk(%d, %#x, %d): %d, %d, wanted %d, %d", root, va, use, p, c, place, why)
	}
}

// TestBits: every way that an entry's ten lowest bits may stand, as a first entry and as a second.
func TestBits(t *testing.T) {
	m := memory(t, 3)
	for _, number := range []uint32{0, 1, 2, 3, 512, 1023, 1024, 1025, 1<<22 - 1, 1<<22 - 1024} {
		for bits := range uint32(1024) {
			set(t, m, 0, 0, number<<10|bits)
			set(t, m, 0, 1, 1<<10|1)
			set(t, m, 1, 1, number<<10|bits)
			for use := range 3 {
				for _, va := range []uint32{0, 0x1004, 0x2fff, 0x3000, 0x3fffff, 0x401000, 0x401fff} {
					agree(t, m, 0, va, use)
				}
			}
		}
	}
}

// TestSecondLeads: a second entry is a leaf, though it looks as if it led on; bits 5, 8 and 9 say nothing.
func TestSecondLeads(t *testing.T) {
	m := memory(t, 4)
	for _, nothing := range []uint32{0, 0x20, 0x100, 0x200, 0x320} {
		set(t, m, 0, 0, 1<<10|1|nothing)
		set(t, m, 1, 0, 2<<10|1|nothing)
		set(t, m, 2, 0, 3<<10|0xdf)
		walk(t, m, 0, 0, api.Load, 0, api.LoadPage)
		walk(t, m, 0, 0, api.Fetch, 0, api.FetchPage)
		walk(t, m, 0, 0, api.Store, 0, api.StorePage)
		set(t, m, 1, 0, 2<<10|0xdf|nothing)
		walk(t, m, 0, 0xfff, api.Store, 3*4096-1, api.None)
		walk(t, m, 0, 0xfff, api.Fetch, 3*4096-1, api.None)
	}
}

// TestNumbers: which of a table's entries is looked at.
func TestNumbers(t *testing.T) {
	for _, first := range []uint32{0, 1, 2, 511, 512, 1022, 1023} {
		for _, second := range []uint32{0, 1, 2, 511, 512, 1022, 1023} {
			m := memory(t, 6)
			set(t, m, 3, int(first), 4<<10|1)
			set(t, m, 4, int(second), 5<<10|0xd3)
			va := first<<22 | second<<12
			walk(t, m, 3, va, api.Load, 5*4096, api.None)
			walk(t, m, 3, va|0xabc, api.Load, 5*4096+0xabc, api.None)
			walk(t, m, 3, va|0xfff, api.Load, 5*4096+0xfff, api.None)
			walk(t, m, 3, va^0x1000, api.Load, 0, api.LoadPage)
			walk(t, m, 3, va^0x200000, api.Load, 0, api.LoadPage)
			walk(t, m, 3, va^0x400000, api.Load, 0, api.LoadPage)
			walk(t, m, 3, va^0x80000000, api.Load, 0, api.LoadPage)
		}
	}
}

// TestGreat: a leaf of 4194304 bytes reaches to the memory's end and no further.
func TestGreat(t *testing.T) {
	m := memory(t, 256)
	set(t, m, 255, 1023, 0xdf)
	for use, why := range map[int]int{api.Fetch: api.FetchAccess, api.Load: api.LoadAccess, api.Store: api.StoreAccess} {
		walk(t, m, 255, 0xffc00000, use, 0, api.None)
		walk(t, m, 255, 0xffcfffff, use, 256*4096-1, api.None)
		walk(t, m, 255, 0xffd00000, use, 0, why)
		walk(t, m, 255, 0xffffffff, use, 0, why)
	}
	for _, number := range []uint32{1024, 1 << 21, 1<<22 - 1024} {
		set(t, m, 255, 1023, number<<10|0xdf)
		walk(t, m, 255, 0xffc00000, api.Load, 0, api.LoadAccess)
	}
	for bit := range 10 {
		set(t, m, 255, 1023, 1<<(10+bit)|0xdf)
		walk(t, m, 255, 0xffc00000, api.Load, 0, api.LoadPage)
	}
}

// TestTables: pages of entries and of leaves at the memory's end, and behind it.
func TestTables(t *testing.T) {
	for _, pages := range []int{2, 3, 256} {
		m := memory(t, pages)
		end := uint32(pages)
		set(t, m, pages-1, 0, 0x5<<10|0xd7)
		for i, number := range []uint32{end - 1, end, end + 1, 1 << 20, 1<<20 + end - 1, 1<<22 - 1} {
			set(t, m, 0, i, number<<10|1)
			for use := range 3 {
				agree(t, m, 0, uint32(i)<<22, use)
			}
		}
		set(t, m, 0, 0, 1<<10|1)
		for i, number := range []uint32{end - 1, end, end + 1, 1 << 20, 1<<20 + end - 1, 1<<22 - 1} {
			set(t, m, 1, i, number<<10|0xdf)
			for use := range 3 {
				agree(t, m, 0, uint32(i)<<12|0xfff, use)
			}
		}
	}
	m := memory(t, 2)
	set(t, m, 0, 0, 2<<10|1)
	walk(t, m, 0, 0, api.Fetch, 0, api.FetchAccess)
	walk(t, m, 0, 0, api.Load, 0, api.LoadAccess)
	walk(t, m, 0, 0, api.Store, 0, api.StoreAccess)
}

// TestSelf: a root may be its own page of entries, and its own leaf.
func TestSelf(t *testing.T) {
	m := memory(t, 1)
	set(t, m, 0, 0, 1)
	walk(t, m, 0, 0, api.Load, 0, api.LoadPage)
	set(t, m, 0, 1, 0xd7)
	walk(t, m, 0, 0x1008, api.Store, 8, api.None)
}

// entry is one that mostly leads somewhere.
func entry(r *rand.Rand, pages int) uint32 {
	number := uint32(r.Intn(pages + 1))
	bits := []uint32{1, 0x21, 0xd7, 0xdf, 0x5b, 0x53, 0xd3, 0}[r.Intn(8)]
	switch r.Intn(6) {
	case 0:
		return r.Uint32()
	case 1:
		bits ^= 1 << r.Intn(10)
	case 2:
		number = 0
	}
	return number<<10 | bits
}

func TestAgainstChapter(t *testing.T) {
	r := rand.New(rand.NewSource(5))
	for range 300 {
		m := memory(t, 1+r.Intn(6))
		for range 20 * m.Pages() {
			set(t, m, r.Intn(m.Pages()), r.Intn(4), entry(r, m.Pages()))
		}
		before, _ := m.Read(0, m.Pages()*4096)
		for range 300 {
			va := uint32(r.Intn(5))<<22 | uint32(r.Intn(5))<<12 | uint32(r.Intn(4096))
			agree(t, m, r.Intn(m.Pages()+2)-1, va, r.Intn(5)-1)
		}
		if after, _ := m.Read(0, m.Pages()*4096); after != before {
			t.Fatal("Walk changed the memory")
		}
	}
}
