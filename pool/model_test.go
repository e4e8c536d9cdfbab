package pool_test

import (
	"fmt"
	"math"
	"math/big"
	"math/rand"
	"slices"
	"strings"
	"testing"

	"vault/api"
	"vault/pool"
)

// model tells the chapter once more: what is there is a heap of things, each with the set of its pages, as the bits of a number.
type model struct {
	pages  int
	may    map[api.Object]*big.Int // the pages of all that may be there
	things []*thing
}

type thing struct {
	object api.Object
	set    *big.Int
	mark   int
}

// sets are, by kinds and numbers, the pages of what may be there in so many pages.
func sets(pages int) map[api.Object]*big.Int {
	all := map[api.Object]*big.Int{}
	lay := func(o api.Object, first, n int) {
		set := new(big.Int)
		for page := first; page < first+n; page++ {
			if page >= pages {
				return
			}
			set.SetBit(set, page, 1)
		}
		all[o] = set
	}
	for page := range pages {
		for kind := api.Frame; kind <= api.Bell; kind++ {
			lay(of(kind, page), page, 1)
		}
	}
	for order, n := 0, 1; n <= 256; order, n = order+1, n*2 {
		for first := 0; first < pages; first += n {
			lay(of(api.Untyped, order*256+first), first, n)
		}
	}
	return all
}

// count is of a set in one row.
func count(set *big.Int) int { return set.BitLen() - int(set.TrailingZeroBits()) }

func meet(a, b *big.Int) bool { return new(big.Int).And(a, b).Sign() != 0 }

func (m *model) find(o api.Object) *thing {
	for _, x := range m.things {
		if x.object == o {
			return x
		}
	}
	return nil
}

func (m *model) liesIn(x, u *thing) bool {
	return x != u && new(big.Int).Or(x.set, u.set).Cmp(u.set) == 0 && (x.object.Kind != api.Untyped || count(x.set) < count(u.set))
}

func (m *model) isEmpty(u *thing) bool {
	return !slices.ContainsFunc(m.things, func(x *thing) bool { return m.liesIn(x, u) })
}

func (m *model) add(o api.Object) api.Errno {
	if o.Kind < 1 || o.Kind > 8 {
		return api.ErrKind
	}
	set, ok := m.may[o]
	if !ok {
		return api.ErrArg
	}
	if slices.ContainsFunc(m.things, func(x *thing) bool { return meet(x.set, set) }) {
		return api.ErrTwice
	}
	m.things = append(m.things, &thing{o, set, 0})
	return api.OK
}

func (m *model) remove(o api.Object) api.Errno {
	x := m.find(o)
	switch {
	case x == nil:
		return api.ErrName
	case o.Kind == api.Untyped && !m.isEmpty(x):
		return api.ErrState
	}
	m.things = slices.DeleteFunc(m.things, func(y *thing) bool { return x == y })
	return api.OK
}

func (m *model) give(num, kind, order, number int) ([]int, api.Errno) {
	if kind < 1 || kind > 8 {
		return nil, api.ErrKind
	}
	if order < 0 || order > 8 || order != 0 && kind != 1 || number < 1 || number > 64 {
		return nil, api.ErrArg
	}
	u := m.find(of(api.Untyped, num))
	if u == nil {
		return nil, api.ErrName
	}
	mark := u.mark
	if m.isEmpty(u) {
		mark = 0
	}
	n := int(math.Pow(2, float64(order)))
	for mark%n != 0 {
		mark++
	}
	if kind == 1 && n >= count(u.set) || mark+number*n > count(u.set) {
		return nil, api.ErrRoom
	}
	var nums []int
	for ; number > 0; number-- {
		o := of(kind, int(u.set.TrailingZeroBits())+mark+order*256)
		m.things = append(m.things, &thing{o, m.may[o], 0})
		nums = append(nums, o.Num)
		mark += n
	}
	u.mark = mark
	return nums, api.OK
}

func (m *model) objects() (l []api.Object) {
	for _, x := range m.things {
		l = append(l, x.object)
	}
	slices.SortFunc(l, func(a, b api.Object) int { return (a.Kind-b.Kind)*10000 + a.Num - b.Num })
	return l
}

func (m *model) picture() string {
	var s, at strings.Builder
	for _, o := range m.objects() {
		fmt.Fprint(&s, o)
		if x := m.find(o); o.Kind == api.Untyped {
			fmt.Fprint(&s, ":", x.mark, m.isEmpty(x), 0, 0)
		}
	}
	held := slices.DeleteFunc(m.objects(), func(o api.Object) bool { return o.Kind == api.Untyped })
	slices.SortFunc(held, func(a, b api.Object) int { return a.Num - b.Num })
	for _, o := range held {
		fmt.Fprint(&at, " ", o.Num, "=", o)
	}
	return s.String() + at.String() + fmt.Sprint(" end=", m.pages, api.Object{}, api.ErrArg)
}

// odd is now and then a number that hardly fits.
func odd(r *rand.Rand, number int) int {
	if r.Intn(40) == 0 {
		return []int{-1, 0, 1, 9, 65, 256, 9 * 256, math.MaxInt, math.MinInt, number + 1, number - 1}[r.Intn(11)]
	}
	return number
}

// some is an object that is there, or might be.
func (m *model) some(r *rand.Rand) api.Object {
	if len(m.things) > 0 && r.Intn(3) > 0 {
		o := m.things[r.Intn(len(m.things))].object
		return of(odd(r, o.Kind), odd(r, o.Num))
	}
	if r.Intn(2) == 0 {
		return of(odd(r, 2+r.Intn(7)), odd(r, r.Intn(m.pages)))
	}
	order := r.Intn(7)
	return of(api.Untyped, odd(r, r.Intn(m.pages)>>order<<order+256*order))
}

// step makes one call of both, and tells what each answered.
func (m *model) step(p *pool.Pool, r *rand.Rand) (what, got, want string, e api.Errno) {
	o := m.some(r)
	switch n := r.Intn(10); {
	case n < 2:
		is, e := p.Add(o), m.add(o)
		return fmt.Sprint("Add ", o), fmt.Sprint(is), fmt.Sprint(e), e
	case n < 5:
		is, e := p.Remove(o), m.remove(o)
		return fmt.Sprint("Remove ", o), fmt.Sprint(is), fmt.Sprint(e), e
	}
	kind, order := 1+r.Intn(8), 0
	if r.Intn(2) == 0 {
		kind, order = 1, r.Intn(4)
	}
	kind, order, number := odd(r, kind), odd(r, order), odd(r, 1+r.Intn(3))
	if r.Intn(20) == 0 {
		number = 60 + r.Intn(8)
	}
	l, f := p.Give(o.Num, kind, order, number)
	k, e := m.give(o.Num, kind, order, number)
	return fmt.Sprint("Give ", o.Num, kind, order, number), fmt.Sprint(l, f), fmt.Sprint(k, e), e
}

func TestModel(t *testing.T) {
	r := rand.New(rand.NewSource(7))
	met := map[string]int{}
	for _, pages := range []int{1, 2, 7, 8, 16, 20, 33, 64, 100, 255, 256} {
		p, m := with(t, pages), &model{pages: pages, may: sets(pages)}
		for range 3000 {
			what, got, want, e := m.step(p, r)
			met[fmt.Sprint(what[:3], e)]++
			if got != want {
				t.Fatalf("%d pages: %s: %s, wanted %s", pages, what, got, want)
			}
			if is, want := picture(p), m.picture(); is != want {
				t.Fatalf("%d pages: behind %s: %s, wanted %s", pages, what, is, want)
			}
		}
	}
	for call, errs := range map[string][]api.Errno{
		"Add": {api.OK, api.ErrKind, api.ErrArg, api.ErrTwice},
		"Rem": {api.OK, api.ErrName, api.ErrState},
		"Giv": {api.OK, api.ErrKind, api.ErrArg, api.ErrName, api.ErrRoom},
	} {
		for _, e := range errs {
			if n := met[fmt.Sprint(call, e)]; n < 20 {
				t.Errorf("%s answers %d only %d times", call, e, n)
			}
		}
	}
}
