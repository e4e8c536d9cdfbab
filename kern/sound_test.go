package kern_test

import (
	"fmt"
	"slices"

	"vault/api"
	"vault/kern"
)

// sound: what does not fit together in a kernel of so many pages, by what it tells alone; "", if all does.
func sound(k *kern.Kernel, pages int) string {
	for _, look := range []func(*kern.Kernel, int) string{soundPages, soundCaps, soundMaps, soundThreads} {
		if wrong := look(k, pages); wrong != "" {
			return wrong
		}
	}
	return ""
}

// soundPages: no two objects of one page share it; untypeds lie in one another, or apart.
func soundPages(k *kern.Kernel, pages int) string {
	owner := map[int]api.Object{}
	l := k.Objects()
	for i, o := range l {
		mine := pagesOf(o)
		if mine[len(mine)-1] >= pages {
			return fmt.Sprintf("%v is beyond memory", o)
		}
		if o.Kind != api.Untyped {
			if other, ok := owner[o.Num]; ok {
				return fmt.Sprintf("%v and %v share a page", o, other)
			}
			owner[o.Num] = o
			continue
		}
		for _, other := range l[:i] {
			theirs := pagesOf(other)
			both := 0
			for _, p := range mine {
				if slices.Contains(theirs, p) {
					both++
				}
			}
			if both > 0 && (both < min(len(mine), len(theirs)) || len(mine) == len(theirs)) {
				return fmt.Sprintf("%v and %v share pages", o, other)
			}
		}
	}
	return ""
}

// soundCaps: each is of what is there, in a slot that is there, and has no more than the one that it comes from.
func soundCaps(k *kern.Kernel, _ int) string {
	at := map[api.Slot]api.Cap{}
	l := k.Entries()
	for _, x := range l {
		at[x.At] = x.Cap
	}
	objects := k.Objects()
	for _, x := range l {
		c := x.Cap
		size, _ := k.Size(x.At.Box)
		switch {
		case x.At.Index >= size:
			return fmt.Sprintf("%v stands in no box", x)
		case c.Kind >= api.Irq && (c.Num < 0 || c.Num > 7) || c.Kind < api.Irq && !slices.Contains(objects, c.Object):
			return fmt.Sprintf("%v is of nothing", x)
		case x.From == noSlot:
			continue
		}
		from, ok := at[x.From]
		switch {
		case !ok:
			return fmt.Sprintf("%v comes from an empty slot", x)
		case from.Kind == api.Untyped && c.Object != from.Object:
			p := pagesOf(from.Object)
			if !slices.Contains(p, pagesOf(c.Object)[0]) {
				return fmt.Sprintf("%v lies not in what it comes from", x)
			}
		case c.Object != from.Object || c.Rights&^from.Rights != 0 || from.Badge != 0 && from.Badge != c.Badge:
			return fmt.Sprintf("%v has more than %v", x, from)
		}
	}
	return ""
}

// soundMaps: what roots map are frames, each by one capability that says so; and the other way round.
func soundMaps(k *kern.Kernel, _ int) string {
	said := map[[2]int]api.Cap{}
	frames := 0
	for _, x := range k.Entries() {
		if x.Cap.Kind == api.Frame && x.Cap.Root > 0 {
			said[[2]int{x.Cap.Root - 1, int(x.Cap.Va)}] = x.Cap
			frames++
		}
	}
	mapped := 0
	for _, o := range k.Objects() {
		if o.Kind != api.Root {
			continue
		}
		l, _ := k.Mappings(o.Num)
		for _, m := range l {
			c := said[[2]int{o.Num, int(m.Va)}]
			if c.Num != m.Page || c.Kind != api.Frame || m.Rights&^c.Rights != 0 {
				return fmt.Sprintf("root %d maps %v, by no capability", o.Num, m)
			}
			mapped++
		}
	}
	if mapped != frames {
		return fmt.Sprintf("%d frames are mapped, %d capabilities say so", mapped, frames)
	}
	return ""
}

// soundThreads: each stands in just the queue or line of its state; answers are owed and waited for.
func soundThreads(k *kern.Kernel, pages int) string {
	stands := map[int][]string{}
	for n := range 64 {
		l, _ := k.Queue(n/8, n%8)
		for _, num := range l {
			stands[num] = append(stands[num], fmt.Sprint("queue ", n/8, n%8))
		}
	}
	for n := range pages {
		l, _ := k.Line(n)
		for _, num := range l {
			stands[num] = append(stands[num], fmt.Sprint("line ", n))
		}
	}
	all := map[int]api.ThreadLook{}
	for _, x := range k.Threads() {
		all[x.Num] = x
	}
	for num, l := range stands {
		if _, ok := all[num]; !ok {
			return fmt.Sprintf("thread %d is not there, but in %v", num, l)
		}
	}
	for num, x := range all {
		var want []string
		switch x.State {
		case api.Ready:
			want = []string{fmt.Sprint("queue ", x.Domain, x.Prio)}
		case api.Sending, api.Calling, api.Getting, api.Hearing, api.Faulting:
			want = []string{fmt.Sprint("line ", x.At)}
		}
		if !slices.Equal(stands[num], want) || (x.At != api.None) != (want != nil && x.State != api.Ready) {
			return fmt.Sprintf("%v stands in %v", x, stands[num])
		}
		if x.Waits != api.None && (all[x.Waits].Caller != num || x.State != api.Asking && x.State != api.Faulted) || x.Caller != api.None && all[x.Caller].Waits != num {
			return fmt.Sprintf("%v: the other one does not know", x)
		}
	}
	return ""
}
