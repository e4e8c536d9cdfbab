package pool

import "vault/api"

// region is a row of pages.
type region struct {
	first, pages int
}

func (r region) end() int {
	return r.first + r.pages
}

// meets: do two regions share a page?
func (r region) meets(s region) bool {
	return r.first < s.end() && s.first < r.end()
}

// untyped is the region of an untyped's number, whose order is none above maxOrder.
func untyped(num int) region {
	first, order := Split(num)
	return region{first: first, pages: 1 << order}
}

func regionOf(o api.Object) region {
	if o.Kind == api.Untyped {
		return untyped(o.Num)
	}
	return region{first: o.Num, pages: 1}
}
