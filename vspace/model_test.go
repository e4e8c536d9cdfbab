package vspace_test

import (
	"math/rand"
	"slices"
	"strings"
	"testing"

	"vault/api"
	"vault/mem"
	"vault/vspace"
)

// model is a memory as words by page and number, changed as the chapter's sentences say.
type model struct {
	pages int
	words map[[2]int]uint32
}

func (o *model) absent(pages ...int) bool {
	return slices.ContainsFunc(pages, func(p int) bool { return p < 0 || p >= o.pages })
}

func has(entry uint32, letters string) bool {
	for _, l := range letters {
		if entry>>strings.IndexRune("VRWXUGAD", l)%2 == 0 {
			return false
		}
	}
	return true
}

// isTable is the page of the table for va, or -1.
func (o *model) isTable(root int, va uint32) int {
	w := o.words[[2]int{root, int(va >> 22)}]
	if w%1024 != 1 || int(w/1024) >= o.pages {
		return -1
	}
	return int(w / 1024)
}

func (o *model) table(root int, va uint32, t int) api.Errno {
	at := [2]int{root, int(va >> 22)}
	switch {
	case o.absent(root, t):
		return api.ErrArg
	case o.words[at] != 0:
		return api.ErrTwice
	}
	o.words[at] = uint32(t*1024 + 1)
	return api.OK
}

func (o *model) noTable(root int, va uint32, t int) api.Errno {
	switch {
	case o.absent(root, t):
		return api.ErrArg
	case o.isTable(root, va) != t:
		return api.ErrTable
	}
	o.words[[2]int{root, int(va >> 22)}] = 0
	return api.OK
}

func (o *model) mapped(root int, va uint32, frame, r int) api.Errno {
	bits := map[int]string{1: "VUAR", 3: "VUARWD", 4: "VUAX", 5: "VUARX", 7: "VUARWDX"}[r]
	if o.absent(root, frame) || va&0xfff != 0 {
		return api.ErrArg
	}
	if bits == "" {
		return api.ErrRight
	}
	t := o.isTable(root, va)
	if t < 0 {
		return api.ErrTable
	}
	at := [2]int{t, int(va >> 12 & 1023)}
	if o.words[at] != 0 {
		return api.ErrTwice
	}
	w := uint32(frame * 1024)
	for _, l := range bits {
		w += 1 << strings.IndexRune("VRWXUGAD", l)
	}
	o.words[at] = w
	return api.OK
}

func (o *model) unmapped(root int, va uint32, frame int) api.Errno {
	if o.absent(root, frame) || va&0xfff != 0 {
		return api.ErrArg
	}
	t := o.isTable(root, va)
	if t < 0 {
		return api.ErrTable
	}
	at := [2]int{t, int(va >> 12 & 1023)}
	if w := o.words[at]; !has(w, "V") || int(w/1024) != frame {
		return api.ErrName
	}
	o.words[at] = 0
	return api.OK
}

// lists goes through all addresses of pages, one by one.
func (o *model) lists(root int) (ts, fs []api.Mapping) {
	for first := range uint32(1024) {
		t := o.isTable(root, first<<22)
		if t < 0 {
			continue
		}
		ts = append(ts, api.Mapping{Va: first << 22, Page: t})
		for second := range uint32(1024) {
			w := o.words[[2]int{t, int(second)}]
			if !has(w, "V") {
				continue
			}
			x := api.Mapping{Va: first<<22 + second<<12, Page: int(w / 1024)}
			for letter, right := range map[string]int{"R": 1, "W": 2, "X": 4} {
				if has(w, letter) {
					x.Rights += right
				}
			}
			fs = append(fs, x)
		}
	}
	return ts, fs
}

// same holds all words of the memory against the model's.
func (o *model) same(t *testing.T, m *mem.Memory) {
	t.Helper()
	for p := range o.pages {
		for n := range 1024 {
			if w, _ := m.Word(p*4096 + n*4); w != o.words[[2]int{p, n}] {
				t.Fatalf("word %d of page %d is %#x, wanted %#x", n, p, w, o.words[[2]int{p, n}])
			}
		}
	}
}

func address(r *rand.Rand) uint32 {
	places := []uint32{0, 1, 2, 512, 1023}
	va := places[r.Intn(5)]<<22 | places[r.Intn(5)]<<12
	if r.Intn(12) == 0 {
		va |= 1 << r.Intn(12)
	}
	return va
}

// stray is a word that some thread might have written into a table.
func stray(r *rand.Rand, pages int) uint32 {
	w := uint32(r.Intn(pages+2))<<10 | 1
	switch r.Intn(3) {
	case 0:
		w |= uint32(r.Intn(1024))
	case 1:
		w ^= 1 << r.Intn(32)
	}
	return w
}

func TestAgainstModel(t *testing.T) {
	r := rand.New(rand.NewSource(7))
	for range 60 {
		pages := 1 + r.Intn(7)
		m := memory(t, pages)
		o := &model{pages: pages, words: map[[2]int]uint32{}}
		page := func() int { return r.Intn(pages*5+2)%(pages+2) - 1 }
		for range 400 {
			root, va, p, rights := page(), address(r), page(), r.Intn(12)-1
			var is, want api.Errno
			kind := r.Intn(9)
			switch {
			case kind < 2:
				is, want = vspace.Table(m, root, va, p), o.table(root, va, p)
			case kind == 2:
				is, want = vspace.NoTable(m, root, va, p), o.noTable(root, va, p)
			case kind < 6:
				is, want = vspace.Map(m, root, va, p, rights), o.mapped(root, va, p, rights)
			case kind < 8:
				is, want = vspace.Unmap(m, root, va, p), o.unmapped(root, va, p)
			case r.Intn(3) == 0:
				at := [2]int{r.Intn(pages), r.Intn(3)}
				o.words[at] = stray(r, pages)
				set(t, m, at[0], at[1], o.words[at])
			}
			if is != want {
				t.Fatalf("kind %d of %d, %#x, %d, %d: %d, wanted %d", kind, root, va, p, rights, is, want)
			}
		}
		o.same(t, m)
		for root := range pages {
			ts, fs := o.lists(root)
			tables(t, m, root, ts...)
			mappings(t, m, root, fs...)
		}
		o.same(t, m)
	}
}
