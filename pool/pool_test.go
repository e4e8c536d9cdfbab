package pool_test

import (
	"fmt"
	"math"
	"slices"
	"strings"
	"testing"

	"vault/api"
	"vault/pool"
)

func of(kind, num int) api.Object { return api.Object{Kind: kind, Num: num} }

// ut is the number of an untyped of 2 to the power of order pages.
func ut(first, order int) int { return first + 256*order }

func untyped(first, order int) api.Object { return of(api.Untyped, ut(first, order)) }

func is(t *testing.T, what string, e, want api.Errno) {
	t.Helper()
	if e != want {
		t.Errorf("%s: %d, wanted %d", what, e, want)
	}
}

// with is a pool with objects.
func with(t *testing.T, pages int, objects ...api.Object) *pool.Pool {
	t.Helper()
	p, e := pool.New(pages)
	if p == nil || e != api.OK {
		t.Fatalf("New(%d): %d", pages, e)
	}
	for _, o := range objects {
		is(t, fmt.Sprintf("Add(%v)", o), p.Add(o), api.OK)
	}
	return p
}

// picture tells all that there is of a pool.
func picture(p *pool.Pool) string {
	var s strings.Builder
	for _, o := range p.Objects() {
		fmt.Fprint(&s, o)
		if o.Kind == api.Untyped {
			m, e := p.Mark(o.Num)
			y, f := p.Empty(o.Num)
			fmt.Fprint(&s, ":", m, y, e, f)
		}
	}
	for page := range 300 {
		o, e := p.At(page)
		if e != api.OK {
			fmt.Fprint(&s, " end=", page, o, e)
			break
		}
		if o != (api.Object{}) {
			fmt.Fprint(&s, " ", page, "=", o)
		}
	}
	return s.String()
}

// refused asks also that all stands as it stood.
func refused(t *testing.T, p *pool.Pool, what string, want api.Errno, call func() api.Errno) {
	t.Helper()
	before := picture(p)
	is(t, what, call(), want)
	if now := picture(p); now != before {
		t.Errorf("%s changed %s to %s", what, before, now)
	}
}

func cannotAdd(t *testing.T, p *pool.Pool, o api.Object, want api.Errno) {
	t.Helper()
	refused(t, p, fmt.Sprintf("Add(%v)", o), want, func() api.Errno { return p.Add(o) })
}

func removes(t *testing.T, p *pool.Pool, o api.Object) {
	t.Helper()
	is(t, fmt.Sprintf("Remove(%v)", o), p.Remove(o), api.OK)
}

func cannotRemove(t *testing.T, p *pool.Pool, o api.Object, want api.Errno) {
	t.Helper()
	refused(t, p, fmt.Sprintf("Remove(%v)", o), want, func() api.Errno { return p.Remove(o) })
}

func gives(t *testing.T, p *pool.Pool, num, kind, order, count int, want ...int) {
	t.Helper()
	if l, e := p.Give(num, kind, order, count); e != api.OK || !slices.Equal(l, want) {
		t.Errorf("Give(%d, %d, %d, %d): %v, %d, wanted %v", num, kind, order, count, l, e, want)
	}
}

func givesNot(t *testing.T, p *pool.Pool, num, kind, order, count int, want api.Errno) {
	t.Helper()
	what := fmt.Sprintf("Give(%d, %d, %d, %d)", num, kind, order, count)
	refused(t, p, what, want, func() api.Errno {
		l, e := p.Give(num, kind, order, count)
		if len(l) != 0 {
			t.Errorf("%s: %v, %d", what, l, e)
		}
		return e
	})
}

func mark(t *testing.T, p *pool.Pool, num, want int) {
	t.Helper()
	if m, e := p.Mark(num); m != want || e != api.OK {
		t.Errorf("Mark(%d): %d, %d, wanted %d", num, m, e, want)
	}
}

func empty(t *testing.T, p *pool.Pool, num int, want bool) {
	t.Helper()
	if y, e := p.Empty(num); y != want || e != api.OK {
		t.Errorf("Empty(%d): %v, %d, wanted %v", num, y, e, want)
	}
}

func objects(t *testing.T, p *pool.Pool, want ...api.Object) {
	t.Helper()
	if l := p.Objects(); !slices.Equal(l, want) {
		t.Errorf("Objects: %v, wanted %v", l, want)
	}
}

func TestExamples(t *testing.T) {
	p := with(t, 8, untyped(0, 3))
	gives(t, p, 768, api.Frame, 0, 2, 0, 1)
	gives(t, p, 768, api.Untyped, 1, 1, 2+256)
	mark(t, p, 768, 4)
	gives(t, p, 768, api.Untyped, 2, 1, 4+512)
	givesNot(t, p, 768, api.Frame, 0, 1, api.ErrRoom)
	cannotAdd(t, p, of(api.Frame, 3), api.ErrTwice)
	for _, o := range []api.Object{of(api.Frame, 0), of(api.Frame, 1), untyped(2, 1), untyped(4, 2)} {
		removes(t, p, o)
	}
	gives(t, p, 768, api.Frame, 0, 8, 0, 1, 2, 3, 4, 5, 6, 7)
}

func TestNew(t *testing.T) {
	for _, n := range []int{0, -1, -256, 257, 512, 1<<32 + 1, math.MaxInt, math.MinInt} {
		if p, e := pool.New(n); p != nil || e != api.ErrArg {
			t.Errorf("New(%d): %v, %d", n, p, e)
		}
	}
	for n := 1; n <= 256; n++ {
		p := with(t, n)
		objects(t, p)
		for page := range n {
			if o, e := p.At(page); o != (api.Object{}) || e != api.OK {
				t.Errorf("At(%d) of %d: %v, %d", page, n, o, e)
			}
		}
		for _, page := range []int{-1, n, n + 1, n + 256, math.MaxInt, math.MinInt} {
			if o, e := p.At(page); o != (api.Object{}) || e != api.ErrArg {
				t.Errorf("At(%d) of %d: %v, %d", page, n, o, e)
			}
		}
		is(t, "Add of the last page", p.Add(of(api.End, n-1)), api.OK)
		cannotAdd(t, p, of(api.End, n), api.ErrArg)
	}
}

func TestSplit(t *testing.T) {
	for order := range 12 {
		for first := range 256 {
			if a, b := pool.Split(first + 256*order); a != first || b != order {
				t.Errorf("Split(%d + 256 * %d): %d, %d", first, order, a, b)
			}
		}
	}
	if a, b := pool.Split(math.MaxInt); a != 255 || b != math.MaxInt/256 {
		t.Errorf("Split(MaxInt): %d, %d", a, b)
	}
	for _, num := range []int{-1, -256, -257, math.MinInt} {
		pool.Split(num) // it ends
	}
}

func TestAddKinds(t *testing.T) {
	for kind := -3; kind < 300; kind++ {
		p := with(t, 4)
		if kind >= 1 && kind <= 8 {
			is(t, "Add", p.Add(of(kind, 3)), api.OK)
			objects(t, p, of(kind, 3))
			want := of(kind, 3)
			if kind == api.Untyped {
				want = api.Object{}
			}
			if o, e := p.At(3); o != want || e != api.OK {
				t.Errorf("At: %v, %d, wanted %v", o, e, want)
			}
			cannotAdd(t, p, of(kind, 3), api.ErrTwice)
			continue
		}
		// The kind is looked at ahead of the number.
		for _, num := range []int{0, 3, 4, -1, 256, 9 * 256, math.MaxInt} {
			cannotAdd(t, p, of(kind, num), api.ErrKind)
		}
	}
	p := with(t, 4, of(api.Root, 2))
	for _, kind := range []int{math.MaxInt, math.MinInt, 1<<32 + 2} {
		cannotAdd(t, p, of(kind, 2), api.ErrKind)
	}
}

func TestAddNumbers(t *testing.T) {
	p := with(t, 20, of(api.Frame, 4))
	for kind := 1; kind <= 8; kind++ {
		for _, num := range []int{-1, -4, -256, math.MinInt, 20, 255, 9 * 256, 9*256 + 4, 10 * 256, math.MaxInt, 1<<32 + 3, 1 << 62} {
			cannotAdd(t, p, of(kind, num), api.ErrArg)
		}
		if kind != api.Untyped { // of the others the number is the page, whatever an untyped's would be
			for _, num := range []int{256, 257, 512, 768, 2048} {
				cannotAdd(t, p, of(kind, num), api.ErrArg)
			}
		}
	}
	for _, o := range []api.Object{untyped(1, 1), untyped(2, 2), untyped(6, 2), untyped(4, 3), untyped(12, 3), untyped(8, 4), untyped(16, 3), untyped(16, 4), untyped(20, 0), untyped(20, 2), untyped(0, 5), untyped(0, 8), untyped(16, 5)} {
		cannotAdd(t, p, o, api.ErrArg)
	}
	for _, o := range []api.Object{untyped(0, 3), untyped(4, 1), untyped(4, 0), untyped(0, 4), untyped(4, 2)} {
		cannotAdd(t, p, o, api.ErrTwice)
	}
	for _, o := range []api.Object{untyped(0, 2), untyped(16, 2), untyped(8, 3), untyped(6, 1), untyped(5, 0)} {
		is(t, fmt.Sprintf("Add(%v)", o), p.Add(o), api.OK)
	}
}

// TestAddOrders: untypeds of all orders, in pools of just their pages and of one page less.
func TestAddOrders(t *testing.T) {
	for order := range 9 {
		n := 1 << order
		for first := range 256 {
			o := untyped(first, order)
			p := with(t, 256)
			if first%n != 0 {
				cannotAdd(t, p, o, api.ErrArg)
				continue
			}
			is(t, fmt.Sprintf("Add(%v)", o), p.Add(o), api.OK)
			is(t, "Add to just its pages", with(t, first+n).Add(o), api.OK)
			if first+n > 1 {
				cannotAdd(t, with(t, first+n-1), o, api.ErrArg)
			}
			for page := range 256 { // its pages, and no others
				want := api.OK
				if page >= first && page < first+n {
					want = api.ErrTwice
				}
				is(t, fmt.Sprintf("Add of page %d with %v", page, o), p.Add(of(api.Table, page)), want)
			}
		}
	}
	cannotAdd(t, with(t, 256), untyped(0, 9), api.ErrArg)
}

// TestAddTwice: whatever is there, and whatever comes, no page has two.
func TestAddTwice(t *testing.T) {
	for kind := 1; kind <= 8; kind++ {
		for other := 1; other <= 8; other++ {
			p := with(t, 8, of(kind, 5))
			cannotAdd(t, p, of(other, 5), api.ErrTwice)
			is(t, "Add beside it", p.Add(of(other, 4)), api.OK)
			cannotAdd(t, p, untyped(4, 2), api.ErrTwice)
			cannotAdd(t, p, untyped(0, 3), api.ErrTwice)
			is(t, "Add ahead of it", p.Add(untyped(0, 2)), api.OK)
		}
	}
	p := with(t, 16, untyped(4, 2))
	for _, o := range []api.Object{untyped(4, 2), untyped(4, 1), untyped(6, 1), untyped(5, 0), untyped(7, 0), untyped(0, 3), untyped(0, 4), of(api.Bell, 4), of(api.Thread, 7)} {
		cannotAdd(t, p, o, api.ErrTwice)
	}
	for _, o := range []api.Object{untyped(0, 2), untyped(8, 3)} {
		is(t, "Add beside it", p.Add(o), api.OK)
	}
}

func TestRemove(t *testing.T) {
	p := with(t, 8, of(api.Frame, 2), of(api.End, 5), untyped(6, 1))
	for _, o := range []api.Object{
		{}, of(0, 2), of(0, 7), of(0, -1), of(api.Frame, 0), of(api.Frame, 5), of(api.End, 2), of(api.Untyped, 2), of(api.Frame, 6), untyped(6, 0), untyped(7, 0), untyped(4, 2), untyped(4, 1),
		of(api.Frame, -1), of(api.Frame, 8), of(api.Frame, 258), of(api.Untyped, -1), of(api.Untyped, 9*256), of(api.Irq, 2), of(api.Port, 2), of(-1, 2), of(99, 2),
		of(api.Untyped, math.MaxInt), of(api.Untyped, math.MinInt), of(api.Frame, math.MaxInt), of(api.Frame, math.MinInt), of(math.MaxInt, 2), of(math.MinInt, 2),
	} {
		cannotRemove(t, p, o, api.ErrName)
	}
	for _, o := range []api.Object{of(api.End, 5), untyped(6, 1), of(api.Frame, 2)} {
		removes(t, p, o)
		cannotRemove(t, p, o, api.ErrName)
	}
	objects(t, p)
	is(t, "Add of what went", p.Add(untyped(0, 3)), api.OK)
}

func TestRemoveUntyped(t *testing.T) {
	p := with(t, 8, untyped(0, 3))
	gives(t, p, ut(0, 3), api.Untyped, 2, 2, ut(0, 2), ut(4, 2))
	gives(t, p, ut(4, 2), api.Untyped, 1, 1, ut(4, 1))
	gives(t, p, ut(4, 1), api.Untyped, 0, 2, 4, 5)
	gives(t, p, 5, api.Bell, 0, 1, 5)
	for _, o := range []api.Object{untyped(0, 3), untyped(4, 2), untyped(4, 1), untyped(5, 0)} {
		cannotRemove(t, p, o, api.ErrState)
	}
	for _, o := range []api.Object{untyped(0, 2), untyped(4, 0)} {
		removes(t, p, o)
	}
	cannotRemove(t, p, untyped(5, 0), api.ErrState)
	for _, o := range []api.Object{of(api.Bell, 5), untyped(5, 0), untyped(4, 1), untyped(4, 2), untyped(0, 3)} {
		removes(t, p, o)
	}
	objects(t, p)
}

// TestSamePage: an untyped of one page and the object in it have one number.
func TestSamePage(t *testing.T) {
	p := with(t, 4, untyped(3, 0))
	empty(t, p, 3, true)
	gives(t, p, 3, api.Thread, 0, 1, 3)
	empty(t, p, 3, false)
	objects(t, p, untyped(3, 0), of(api.Thread, 3))
	cannotRemove(t, p, untyped(3, 0), api.ErrState)
	givesNot(t, p, 3, api.Frame, 0, 1, api.ErrRoom)
	removes(t, p, of(api.Thread, 3))
	mark(t, p, 3, 1)
	gives(t, p, 3, api.Frame, 0, 1, 3)
}

func TestNoSuchUntyped(t *testing.T) {
	p := with(t, 16, untyped(4, 2), of(api.Frame, 1), of(api.Box, 8))
	gives(t, p, ut(4, 2), api.Frame, 0, 1, 4)
	for _, num := range []int{0, 1, 4, 8, ut(4, 1), ut(4, 3), ut(0, 2), ut(5, 2), ut(4, 9), -1, -512, -508, math.MaxInt, math.MinInt, 1<<32 + ut(4, 2)} {
		refused(t, p, "Empty", api.ErrName, func() api.Errno {
			y, e := p.Empty(num)
			if y {
				t.Errorf("Empty(%d): %v", num, y)
			}
			return e
		})
		refused(t, p, "Mark", api.ErrName, func() api.Errno {
			m, e := p.Mark(num)
			if m != 0 {
				t.Errorf("Mark(%d): %d", num, m)
			}
			return e
		})
		givesNot(t, p, num, api.Frame, 0, 1, api.ErrName)
		givesNot(t, p, num, api.Untyped, 8, 64, api.ErrName)
		givesNot(t, p, num, api.Untyped, 9, 1, api.ErrArg)
	}
}

// TestEmpty: only what is within its pages lies in an untyped, and it does not lie in itself or in what is within it.
func TestEmpty(t *testing.T) {
	p := with(t, 16, untyped(4, 2), of(api.Frame, 3), of(api.Frame, 8), untyped(0, 1), untyped(12, 2))
	empty(t, p, ut(4, 2), true)
	for i := range 4 {
		p := with(t, 16, untyped(4, 2))
		gives(t, p, ut(4, 2), api.Frame, 0, 4, 4, 5, 6, 7)
		for j := range 4 {
			if i != j {
				removes(t, p, of(api.Frame, 4+j))
			}
		}
		empty(t, p, ut(4, 2), false)
		removes(t, p, of(api.Frame, 4+i))
		empty(t, p, ut(4, 2), true)
	}
	gives(t, p, ut(4, 2), api.Untyped, 1, 2, ut(4, 1), ut(6, 1))
	empty(t, p, ut(4, 2), false)
	empty(t, p, ut(4, 1), true)
	empty(t, p, ut(6, 1), true)
	gives(t, p, ut(6, 1), api.Frame, 0, 1, 6)
	empty(t, p, ut(4, 1), true)
	empty(t, p, ut(6, 1), false)
	removes(t, p, untyped(4, 1))
	empty(t, p, ut(4, 2), false)
}

// TestObjectsOrder: by kinds, and of one kind by numbers, untypeds by the numbers that tell of their orders too.
func TestObjectsOrder(t *testing.T) {
	p := with(t, 64, of(api.Bell, 0), of(api.Frame, 9), of(api.Bell, 10), untyped(32, 5), of(api.Frame, 2), untyped(1, 0), of(api.End, 5), untyped(12, 2), of(api.Table, 3), of(api.Root, 6), of(api.Box, 7), of(api.Thread, 8), untyped(16, 1))
	gives(t, p, ut(32, 5), api.Untyped, 4, 2, ut(32, 4), ut(48, 4))
	gives(t, p, ut(48, 4), api.Frame, 0, 1, 48)
	for range 20 {
		objects(t, p, of(1, 1), of(1, 16+256), of(1, 12+512), of(1, 32+1024), of(1, 48+1024), of(1, 32+1280),
			of(2, 2), of(2, 9), of(2, 48), of(3, 3), of(4, 6), of(5, 7), of(6, 8), of(7, 5), of(8, 0), of(8, 10))
	}
}

// TestNewMemory: what is written into an answer, spare room included, is seen nowhere.
func TestNewMemory(t *testing.T) {
	p := with(t, 64, untyped(0, 6))
	given, _ := p.Give(ut(0, 6), api.Frame, 0, 5)
	list := p.Objects()
	before, given0, list0 := picture(p), slices.Clone(given), slices.Clone(list)
	for _, o := range list0[1:3] {
		removes(t, p, o)
		is(t, "Add back", p.Add(o), api.ErrTwice)
	}
	if !slices.Equal(given, given0) || !slices.Equal(list, list0) {
		t.Errorf("an answer changed behind it: %v, %v", given, list)
	}
	p = with(t, 64, untyped(0, 6))
	for i := range 2 {
		if i == 0 {
			given, _ = p.Give(ut(0, 6), api.Frame, 0, 5)
		}
		list = p.Objects()
		if !slices.Equal(list, list0) {
			t.Errorf("another answer: %v", list)
		}
		given, list = given[:cap(given)], list[:cap(list)]
		for i := range given {
			given[i] = 77
		}
		for i := range list {
			list[i] = of(7, 7)
		}
	}
	if now := picture(p); now != before {
		t.Errorf("the pool changed from %s to %s", before, now)
	}
}

func TestPoolsApart(t *testing.T) {
	p, other := with(t, 8, untyped(0, 3)), with(t, 8, untyped(0, 3))
	gives(t, p, 768, api.Frame, 0, 2, 0, 1)
	before := picture(p)
	gives(t, other, 768, api.Bell, 0, 3, 0, 1, 2)
	removes(t, other, of(api.Bell, 0))
	if now := picture(p); now != before {
		t.Errorf("another pool changed %s to %s", before, now)
	}
	objects(t, with(t, 8))
}
