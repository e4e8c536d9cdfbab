package pool

import "vault/api"

// Give: so many objects of a kind out of an untyped (untypeds: of 2 to the power of order pages; else order is 0): the numbers. ErrKind; ErrArg: order, or fewer than one or more than 64; ErrName; ErrRoom. Where nothing lies in the untyped it is given out from its beginning.
func (p *Pool) Give(num, kind, order, count int) ([]int, api.Errno) {
	if e := canBeGiven(kind, order, count); e != api.OK {
		return nil, e
	}
	mark, e := p.begin(num)
	if e != api.OK {
		return nil, e
	}
	whole, each := untyped(num), 1<<order
	mark = raise(mark, each)
	end := mark + count*each
	if kind == api.Untyped && each >= whole.pages || end > whole.pages {
		return nil, api.ErrRoom
	}
	list := make([]int, count)
	for i := range list {
		list[i] = whole.first + mark + i*each + api.MaxPages*order
		p.lay(api.Object{Kind: kind, Num: list[i]})
	}
	p.marks[num] = end
	return list, api.OK
}

// canBeGiven looks at what hangs on no untyped.
func canBeGiven(kind, order, count int) api.Errno {
	if !isKind(kind) {
		return api.ErrKind
	}
	if order < 0 || order > maxOrder || order > 0 && kind != api.Untyped || count < 1 || count > maxGiven {
		return api.ErrArg
	}
	return api.OK
}

// begin is the mark from which Give goes on: an untyped in which nothing lies is given out anew.
func (p *Pool) begin(num int) (int, api.Errno) {
	empty, e := p.Empty(num)
	if e != api.OK || empty {
		return 0, e
	}
	return p.Mark(num)
}

// raise is the next multiple of a power of two, or the number itself, if it is one.
func raise(number, power int) int {
	return (number + power - 1) &^ (power - 1)
}
