package caps_test

import (
	"fmt"
	"math/rand"
	"slices"
	"strconv"
	"strings"
	"testing"

	"vault/api"
	"vault/caps"
)

// model tells the chapter once more: capabilities are cards in one heap, each with its own number, its slot and the number of the card from which it comes (0: none); addresses are texts of 0 and 1.
type model struct {
	sizes map[int]int
	cards []*card
	last  int
}

type card struct {
	id, from int
	at       api.Slot
	held     api.Cap
}

func (o *model) find(wanted func(*card) bool) *card {
	if i := slices.IndexFunc(o.cards, wanted); i >= 0 {
		return o.cards[i]
	}
	return nil
}

func (o *model) byID(id int) *card {
	return o.find(func(c *card) bool { return c.id == id })
}

// slot is the card at a slot (nil: it is empty), and the error of a slot that is not there.
func (o *model) slot(a api.Slot) (*card, api.Errno) {
	size, ok := o.sizes[a.Box]
	if !ok || a.Index < 0 || a.Index > size-1 {
		return nil, api.ErrSlot
	}
	return o.find(func(c *card) bool { return c.at == a }), api.OK
}

func (o *model) full(a api.Slot) (*card, api.Errno) {
	c, e := o.slot(a)
	if e == api.OK && c == nil {
		e = api.ErrEmpty
	}
	return c, e
}

func (o *model) empty(a api.Slot) api.Errno {
	c, e := o.slot(a)
	if c != nil {
		e = api.ErrFull
	}
	return e
}

func (o *model) makes(num, slots int) api.Errno {
	switch _, there := o.sizes[num]; {
	case num < 0, !slices.Contains([]int{1, 2, 4, 8, 16, 32, 64}, slots):
		return api.ErrArg
	case there:
		return api.ErrTwice
	}
	o.sizes[num] = slots
	return api.OK
}

func (o *model) drop(num int) api.Errno {
	if _, there := o.sizes[num]; !there {
		return api.ErrName
	}
	if o.find(func(c *card) bool { return c.at.Box == num }) != nil {
		return api.ErrFull
	}
	delete(o.sizes, num)
	return api.OK
}

func (o *model) put(a api.Slot, held api.Cap, from api.Slot) api.Errno {
	if held.Kind < 1 || held.Kind > 10 {
		return api.ErrKind
	}
	if e := o.empty(a); e != api.OK {
		return e
	}
	source := 0
	if from.Box != -1 {
		c, e := o.full(from)
		if e != api.OK {
			return e
		}
		source = c.id
	}
	o.last++
	o.cards = append(o.cards, &card{o.last, source, a, held})
	return api.OK
}

func (o *model) set(a api.Slot, held api.Cap) api.Errno {
	c, e := o.full(a)
	switch {
	case e != api.OK:
		return e
	case c.held.Kind != held.Kind || c.held.Num != held.Num:
		return api.ErrKind
	}
	c.held = held
	return api.OK
}

func (o *model) take(a api.Slot) (api.Cap, api.Errno) {
	c, e := o.full(a)
	if e != api.OK {
		return api.Cap{}, e
	}
	for _, other := range o.cards {
		if other.from == c.id {
			other.from = c.from
		}
	}
	o.cards = slices.DeleteFunc(o.cards, func(other *card) bool { return other == c })
	return c.held, api.OK
}

func (o *model) move(from, to api.Slot) api.Errno {
	c, e := o.full(from)
	if e == api.OK {
		e = o.empty(to)
	}
	if e == api.OK {
		c.at = to
	}
	return e
}

func (o *model) source(c *card) api.Slot {
	if c.from == 0 {
		return none
	}
	return o.byID(c.from).at
}

// ordered are those cards that are wanted, by their slots.
func (o *model) ordered(wanted func(*card) bool) []*card {
	var l []*card
	for _, c := range o.cards {
		if wanted(c) {
			l = append(l, c)
		}
	}
	slices.SortFunc(l, func(a, b *card) int { return (a.at.Box-b.at.Box)*1000 + a.at.Index - b.at.Index })
	return l
}

func (o *model) below(id int) (l []api.Slot) {
	for _, c := range o.ordered(func(c *card) bool { return c.from == id }) {
		l = append(l, c.at)
		l = append(l, o.below(c.id)...)
	}
	return l
}

func (o *model) holders(object api.Object) (l []api.Slot) {
	for _, c := range o.ordered(func(c *card) bool { return c.held.Object == object }) {
		l = append(l, c.at)
	}
	return l
}

func (o *model) entries() (l []api.Entry) {
	for _, c := range o.ordered(func(*card) bool { return true }) {
		l = append(l, api.Entry{At: c.at, Cap: c.held, From: o.source(c)})
	}
	return l
}

// digits takes n digits off the front of a text, as a number.
func digits(left string, n int) (uint64, string) {
	number, _ := strconv.ParseUint("0"+left[:n], 2, 64)
	return number, left[n:]
}

func (o *model) lookup(held api.Cap, addr uint32, bits int) (api.Slot, api.Errno) {
	if bits < 1 || bits > 32 {
		return none, api.ErrArg
	}
	return o.walk(held, fmt.Sprintf("%032b", addr)[32-bits:])
}

func (o *model) walk(held api.Cap, left string) (api.Slot, api.Errno) {
	size, there := o.sizes[held.Num]
	if held.Kind != api.Box || !there {
		return none, api.ErrKind
	}
	radix := strings.Index("1 2 4 8 163264", strconv.Itoa(size)) / 2
	if held.GuardBits < 0 || held.GuardBits > 32 || held.GuardBits+radix == 0 || held.GuardBits+radix > len(left) {
		return none, api.ErrSlot
	}
	guard, left := digits(left, held.GuardBits)
	if guard != uint64(held.Guard) {
		return none, api.ErrSlot
	}
	index, left := digits(left, radix)
	a := at(held.Num, int(index))
	if left == "" {
		return a, api.OK
	}
	c, _ := o.slot(a)
	if c == nil {
		return none, api.ErrEmpty
	}
	return o.walk(c.held, left)
}

// pair does each call on a store and on the model.
type pair struct {
	*testing.T
	r *rand.Rand
	s *caps.Store
	o *model
}

func (p pair) same(what string, is, want any) {
	p.Helper()
	if fmt.Sprint(is) != fmt.Sprint(want) {
		p.Fatalf("%s: %v, wanted %v", what, is, want)
	}
}

func (p pair) number() int { return p.r.Intn(7) - 1 }

// slot is mostly one that is there.
func (p pair) slot() api.Slot {
	a := at(p.number(), p.r.Intn(70)-2)
	if size, there := p.o.sizes[a.Box]; there && p.r.Intn(12) > 0 {
		a.Index = p.r.Intn(size)
	}
	return a
}

// occupied is mostly a slot that is full.
func (p pair) occupied() api.Slot {
	if len(p.o.cards) == 0 || p.r.Intn(8) == 0 {
		return p.slot()
	}
	return p.o.cards[p.r.Intn(len(p.o.cards))].at
}

func (p pair) capability() api.Cap {
	c := of(p.r.Intn(14)-1, p.r.Intn(3))
	if p.r.Intn(3) > 0 {
		c = box(p.number(), p.r.Intn(4), uint32(p.r.Intn(2)))
	}
	if p.r.Intn(15) == 0 {
		c.GuardBits = []int{-1, 30, 32, 33}[p.r.Intn(4)]
	}
	c.Rights, c.Badge, c.Root, c.Va = p.r.Intn(9)-1, p.r.Uint32(), p.r.Intn(9), p.r.Uint32()
	return c
}

func (p pair) change() {
	a, b, c := p.occupied(), p.slot(), p.capability()
	num, slots := p.number(), []int{1, 2, 4, 8, 16, 32, 64, 0, 3, 65, -4}[p.r.Intn(11)]
	switch kind := p.r.Intn(20); {
	case kind < 4:
		p.same(fmt.Sprint("Make ", num, slots), p.s.Make(num, slots), p.o.makes(num, slots))
	case kind < 5:
		p.same(fmt.Sprint("Drop ", num), p.s.Drop(num), p.o.drop(num))
	case kind < 14:
		if p.r.Intn(4) == 0 {
			a = at(-1, p.r.Intn(3)-1)
		}
		p.same(fmt.Sprint("Put ", b, c, a), p.s.Put(b, c, a), p.o.put(b, c, a))
	case kind < 15:
		if old, e := p.s.Get(a); e == api.OK && p.r.Intn(4) > 0 {
			c.Object = old.Object
		}
		p.same(fmt.Sprint("Set ", a, c), p.s.Set(a, c), p.o.set(a, c))
	case kind < 16:
		is, e := p.s.Take(a)
		want, e1 := p.o.take(a)
		p.same(fmt.Sprint("Take ", a), []any{is, e}, []any{want, e1})
	default:
		p.same(fmt.Sprint("Move ", a, b), p.s.Move(a, b), p.o.move(a, b))
	}
}

func (p pair) told() {
	p.same("Entries", p.s.Entries(), p.o.entries())
	a, c := p.occupied(), p.capability()
	p.same(fmt.Sprint("Holders ", c.Object), p.s.Holders(c.Object), p.o.holders(c.Object))
	card, e := p.o.full(a)
	held, source, list := api.Cap{}, none, []api.Slot(nil)
	if e == api.OK {
		held, source, list = card.held, p.o.source(card), p.o.below(card.id)
	}
	is, e1 := p.s.Get(a)
	p.same(fmt.Sprint("Get ", a), []any{is, e1}, []any{held, e})
	from, e1 := p.s.From(a)
	p.same(fmt.Sprint("From ", a), []any{from, e1}, []any{source, e})
	l, e1 := p.s.Below(a)
	p.same(fmt.Sprint("Below ", a), []any{l, e1}, []any{list, e})
	for num := -2; num < 7; num++ {
		n, e := p.s.Size(num)
		size, there := p.o.sizes[num]
		p.same(fmt.Sprint("Size ", num), []any{n, e == api.OK, e == api.ErrName}, []any{size, there, !there})
	}
}

// path is an address that leads, mostly, from a capability to a slot by way of as many boxes as there are, or of fewer.
func (p pair) path(c api.Cap) string {
	address := ""
	for len(address) <= 32 {
		size, there := p.o.sizes[c.Num]
		if c.Kind != api.Box || !there || c.GuardBits < 0 {
			break
		}
		guard := fmt.Sprintf("%032b", c.Guard)
		if c.GuardBits <= 32 {
			address += guard[32-c.GuardBits:]
		}
		next := at(c.Num, p.r.Intn(size))
		if l := p.o.ordered(func(x *card) bool { return x.at.Box == c.Num }); len(l) > 0 && p.r.Intn(4) > 0 {
			next = l[p.r.Intn(len(l))].at
		}
		for half := size / 2; half > 0; half /= 2 {
			address += strconv.Itoa(next.Index / half % 2)
		}
		card, _ := p.o.slot(next)
		if card == nil || p.r.Intn(5) == 0 {
			break
		}
		c = card.held
	}
	return address[:min(32, len(address))]
}

// looked tells whether a slot was found, and whether by way of another box.
func (p pair) looked() (found, far bool) {
	c, addr, bits := p.capability(), p.r.Uint32(), p.r.Intn(35)-1
	if path := p.path(c); p.r.Intn(4) > 0 {
		number, _ := strconv.ParseUint("0"+path, 2, 32)
		addr, bits = addr<<len(path)|uint32(number), len(path)
	}
	switch p.r.Intn(12) {
	case 0:
		addr ^= 1 << p.r.Intn(32)
	case 1:
		bits += p.r.Intn(3) - 1
	}
	a, e := p.s.Lookup(c, addr, bits)
	want, e1 := p.o.lookup(c, addr, bits)
	p.same(fmt.Sprintf("Lookup of %v, %#x, %d", c, addr, bits), []any{a, e}, []any{want, e1})
	return e == api.OK, e == api.OK && a.Box != c.Num
}

func TestAgainstModel(t *testing.T) {
	r := rand.New(rand.NewSource(7))
	all, ways := 0, 0
	for range 150 {
		p := pair{t, r, caps.New(), &model{sizes: map[int]int{}}}
		for range 200 {
			p.change()
			p.told()
			for range 5 {
				found, far := p.looked()
				if found {
					all++
				}
				if far {
					ways++
				}
			}
		}
	}
	if all < 2000 || ways < 200 {
		t.Errorf("only %d addresses led to a slot, %d of them on to another box", all, ways)
	}
}
