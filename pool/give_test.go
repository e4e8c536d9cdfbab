package pool_test

import (
	"math"
	"testing"

	"vault/api"
)

func TestGiveWrong(t *testing.T) {
	p := with(t, 256, untyped(0, 8))
	gives(t, p, ut(0, 8), api.Frame, 0, 3, 0, 1, 2)
	for _, kind := range []int{0, -1, 9, 10, 11, math.MaxInt, math.MinInt, 1<<32 + 2} {
		// The kind is looked at first, then the numbers, then the untyped.
		for _, num := range []int{ut(0, 8), 0, -1} {
			givesNot(t, p, num, kind, 0, 1, api.ErrKind)
			givesNot(t, p, num, kind, 9, 65, api.ErrKind)
		}
	}
	for kind := 1; kind <= 8; kind++ {
		for _, order := range []int{-1, 9, 10, 64, 1 << 32, math.MaxInt, math.MinInt} {
			givesNot(t, p, ut(0, 8), kind, order, 1, api.ErrArg)
			givesNot(t, p, 5, kind, order, 1, api.ErrArg)
		}
		for _, count := range []int{0, -1, 65, 66, 1<<32 + 1, math.MaxInt, math.MinInt} {
			givesNot(t, p, ut(0, 8), kind, 0, count, api.ErrArg)
			givesNot(t, p, 5, kind, 0, count, api.ErrArg)
		}
		for order := 1; order <= 8 && kind != api.Untyped; order++ {
			givesNot(t, p, ut(0, 8), kind, order, 1, api.ErrArg)
		}
		givesNot(t, p, 5, kind, 0, 1, api.ErrName)
	}
}

func TestGiveKinds(t *testing.T) {
	for kind := 1; kind <= 8; kind++ {
		p := with(t, 256, untyped(64, 6))
		gives(t, p, ut(64, 6), kind, 0, 1, 64)
		gives(t, p, ut(64, 6), kind, 0, 2, 65, 66)
		want := []api.Object{of(kind, 64), of(kind, 65), of(kind, 66)}
		if kind == api.Untyped {
			objects(t, p, append(want, untyped(64, 6))...)
			continue
		}
		objects(t, p, append([]api.Object{untyped(64, 6)}, want...)...)
		for i, w := range want {
			if o, e := p.At(64 + i); o != w || e != api.OK {
				t.Errorf("At(%d): %v, %d", 64+i, o, e)
			}
		}
		if o, e := p.At(67); o != (api.Object{}) || e != api.OK {
			t.Errorf("At(67): %v, %d", o, e)
		}
	}
}

// TestGiveMost: 64 at once, and no more than there is room for.
func TestGiveMost(t *testing.T) {
	p := with(t, 256, untyped(0, 8))
	for i := range 4 {
		want := make([]int, 64)
		for j := range want {
			want[j] = 64*i + j
		}
		gives(t, p, ut(0, 8), api.Table, 0, 64, want...)
		mark(t, p, ut(0, 8), 64*(i+1))
	}
	givesNot(t, p, ut(0, 8), api.Table, 0, 1, api.ErrRoom)
	p = with(t, 128, untyped(64, 6))
	gives(t, p, ut(64, 6), api.Table, 0, 1, 64)
	givesNot(t, p, ut(64, 6), api.Table, 0, 64, api.ErrRoom)
	givesNot(t, p, ut(64, 6), api.Untyped, 3, 64, api.ErrRoom)
	givesNot(t, p, ut(64, 6), api.Untyped, 3, 8, api.ErrRoom)
	gives(t, p, ut(64, 6), api.Untyped, 3, 7, ut(72, 3), ut(80, 3), ut(88, 3), ut(96, 3), ut(104, 3), ut(112, 3), ut(120, 3))
}

// TestGiveParts: untypeds of fewer pages alone may be made of an untyped, and so many as fit in.
func TestGiveParts(t *testing.T) {
	for order := range 9 {
		for part := range 9 {
			num := ut(0, order)
			p := with(t, 256, untyped(0, order))
			if part >= order {
				givesNot(t, p, num, api.Untyped, part, 1, api.ErrRoom)
				continue
			}
			fit := 1 << (order - part)
			if fit < 64 {
				givesNot(t, p, num, api.Untyped, part, fit+1, api.ErrRoom)
			}
			fit = min(fit, 64)
			want := make([]int, fit)
			for i := range want {
				want[i] = ut(i<<part, part)
			}
			gives(t, p, num, api.Untyped, part, fit, want...)
			mark(t, p, num, fit<<part)
			for _, w := range want {
				mark(t, p, w, 0)
				empty(t, p, w, true)
			}
		}
	}
}

// TestGiveRaised: the mark is raised to a multiple, and what is left out is not given any more.
func TestGiveRaised(t *testing.T) {
	p := with(t, 48, untyped(32, 4))
	num := ut(32, 4)
	gives(t, p, num, api.End, 0, 1, 32)
	gives(t, p, num, api.Untyped, 1, 1, ut(34, 1))
	mark(t, p, num, 4)
	gives(t, p, num, api.Untyped, 2, 1, ut(36, 2))
	mark(t, p, num, 8)
	gives(t, p, num, api.Untyped, 0, 1, 40)
	givesNot(t, p, num, api.Untyped, 3, 1, api.ErrRoom)
	mark(t, p, num, 9)
	gives(t, p, num, api.Untyped, 2, 1, ut(44, 2))
	mark(t, p, num, 16)
	givesNot(t, p, num, api.Bell, 0, 1, api.ErrRoom)
}

// TestGiveMark: what goes does not change the mark; only where nothing is left is it taken as 0, and only if something is given then.
func TestGiveMark(t *testing.T) {
	p := with(t, 8, untyped(0, 3))
	gives(t, p, 768, api.Frame, 0, 3, 0, 1, 2)
	removes(t, p, of(api.Frame, 2))
	mark(t, p, 768, 3)
	gives(t, p, 768, api.Bell, 0, 1, 3)
	removes(t, p, of(api.Frame, 0))
	removes(t, p, of(api.Frame, 1))
	gives(t, p, 768, api.Bell, 0, 1, 4)
	removes(t, p, of(api.Bell, 3))
	removes(t, p, of(api.Bell, 4))
	mark(t, p, 768, 5)
	empty(t, p, 768, true)
	givesNot(t, p, 768, api.Frame, 0, 9, api.ErrRoom)
	givesNot(t, p, 768, api.Untyped, 3, 1, api.ErrRoom)
	mark(t, p, 768, 5)
	gives(t, p, 768, api.Untyped, 2, 1, 512)
	mark(t, p, 768, 4)
}

// TestGiveInner: what is given of an untyped within another changes the mark of neither the outer nor its like.
func TestGiveInner(t *testing.T) {
	p := with(t, 8, untyped(0, 3))
	gives(t, p, 768, api.Untyped, 2, 1, 512)
	gives(t, p, 512, api.Untyped, 1, 2, 256, 258)
	gives(t, p, 258, api.Frame, 0, 2, 2, 3)
	mark(t, p, 768, 4)
	mark(t, p, 512, 4)
	mark(t, p, 256, 0)
	mark(t, p, 258, 2)
	// The inner one stays where it is while something lies in it, and the outer goes on behind it.
	gives(t, p, 768, api.Frame, 0, 1, 4)
	removes(t, p, untyped(0, 1))
	gives(t, p, 768, api.Frame, 0, 1, 5)
	givesNot(t, p, 512, api.Frame, 0, 1, api.ErrRoom)
}

// TestMarkAnew: an untyped that went and is there again has the mark 0, whether it is added or given.
func TestMarkAnew(t *testing.T) {
	p := with(t, 8, untyped(0, 3))
	gives(t, p, 768, api.Untyped, 1, 1, 256)
	gives(t, p, 256, api.Frame, 0, 1, 0)
	removes(t, p, of(api.Frame, 0))
	mark(t, p, 256, 1)
	removes(t, p, untyped(0, 1))
	gives(t, p, 768, api.Untyped, 1, 1, 256)
	mark(t, p, 256, 0)
	removes(t, p, untyped(0, 1))
	removes(t, p, untyped(0, 3))
	is(t, "Add", p.Add(untyped(0, 3)), api.OK)
	mark(t, p, 768, 0)
}
