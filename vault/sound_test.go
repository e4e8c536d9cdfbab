package vault_test

import (
	"fmt"
	"math/rand"
	"slices"
	"strings"
	"testing"

	"vault/api"
	"vault/pool"
	"vault/vault"
)

// sound: what does not fit together, by what the system tells alone; "", if all does.
func sound(s *vault.System) string {
	for _, look := range []func(*vault.System) string{soundPages, soundCaps, soundMaps, soundThreads} {
		if wrong := look(s); wrong != "" {
			return wrong
		}
	}
	return ""
}

// region: an object's first page, and the one behind its last one.
func region(o api.Object) (int, int) {
	if o.Kind != api.Untyped {
		return o.Num, o.Num + 1
	}
	page, order := pool.Split(o.Num)
	return page, page + 1<<order
}

// lies: whether an object lies in an untyped.
func lies(o, in api.Object) bool {
	from, to := region(o)
	first, last := region(in)
	return in.Kind == api.Untyped && first <= from && to <= last && (o.Kind != api.Untyped || to-from < last-first)
}

// soundPages: no two objects share a page, but one that lies in the other.
func soundPages(s *vault.System) string {
	l := s.Objects()
	for i, a := range l {
		for _, b := range l[:i] {
			from, to := region(a)
			first, last := region(b)
			if from < last && first < to && !lies(a, b) && !lies(b, a) {
				return fmt.Sprintf("%v and %v share a page", a, b)
			}
		}
	}
	return ""
}

// soundBytes: of a page that is no object's nothing is left, and an end, a bell, a box or a thread has nothing in its page.
func soundBytes(s *vault.System) string {
	shows := map[int]int{}
	for _, o := range s.Objects() {
		if o.Kind == api.Frame || o.Kind == api.Table || o.Kind == api.Root {
			shows[o.Num]++
		}
	}
	for n := range pagesOf(s) {
		if b, _ := s.Peek(n*api.PageLen, api.PageLen); shows[n] == 0 && strings.Trim(b, "\x00") != "" {
			return fmt.Sprintf("page %d is not 0", n)
		}
	}
	return ""
}

// soundCaps: each is of what is there, and has no more than the one that it comes from.
func soundCaps(s *vault.System) string {
	there := map[api.Object]int{}
	for _, o := range s.Objects() {
		there[o]++
	}
	for n := range 8 {
		there[api.Object{Kind: api.Irq, Num: n}]++
		there[api.Object{Kind: api.Port, Num: n}]++
	}
	entries := s.Entries()
	at := map[api.Slot]api.Cap{}
	for _, x := range entries {
		at[x.At] = x.Cap
	}
	for _, x := range entries {
		if size, e := s.Size(x.At.Box); e != api.OK || x.At.Index >= size {
			return fmt.Sprintf("%v stands in no slot", x)
		}
		if there[x.Cap.Object] != 1 {
			return fmt.Sprintf("%v is of what is not there", x)
		}
		if x.From.Box == api.None {
			continue
		}
		from, ok := at[x.From]
		if !ok {
			return fmt.Sprintf("%v comes from an empty slot", x)
		}
		same := x.Cap.Object == from.Object && x.Cap.Rights&^from.Rights == 0 && (from.Badge == 0 || from.Badge == x.Cap.Badge)
		if !same && !lies(x.Cap.Object, from.Object) {
			return fmt.Sprintf("%v has more than %v", x, from)
		}
	}
	return ""
}

// soundMaps: what roots map are frames, each by one capability that says so, and no capability says so of what is not mapped.
func soundMaps(s *vault.System) string {
	said := map[int][]api.Mapping{}
	rights := map[api.Mapping]int{}
	for _, x := range s.Entries() {
		if x.Cap.Kind == api.Frame && x.Cap.Root > 0 {
			m := api.Mapping{Va: x.Cap.Va, Page: x.Cap.Num}
			said[x.Cap.Root-1] = append(said[x.Cap.Root-1], m)
			m.Rights = x.Cap.Root
			rights[m] = x.Cap.Rights
		}
	}
	for _, o := range s.Objects() {
		if o.Kind != api.Root {
			continue
		}
		mapped, e := s.Mappings(o.Num)
		if e != api.OK {
			return fmt.Sprintf("Mappings of root %d: %d", o.Num, e)
		}
		for i, m := range mapped {
			if m.Rights&^rights[api.Mapping{Va: m.Va, Page: m.Page, Rights: o.Num + 1}] != 0 {
				return fmt.Sprintf("root %d maps %v, by no capability with such rights", o.Num, m)
			}
			mapped[i].Rights = 0
		}
		l := said[o.Num]
		slices.SortFunc(l, func(a, b api.Mapping) int { return int(int64(a.Va) - int64(b.Va)) })
		if !slices.Equal(mapped, l) {
			return fmt.Sprintf("root %d maps %v, capabilities say %v", o.Num, mapped, l)
		}
		delete(said, o.Num)
	}
	if len(said) > 0 {
		return fmt.Sprintf("mapped by roots that are not there: %v", said)
	}
	return ""
}

// soundThreads: each stands in just the queue or line of its state.
func soundThreads(s *vault.System) string {
	stands := map[int][]string{}
	stand := func(l []int, where ...any) {
		for _, num := range l {
			stands[num] = append(stands[num], fmt.Sprint(where...))
		}
	}
	for n := range 64 {
		l, _ := s.Queue(n/8, n%8)
		stand(l, "queue", n/8, n%8)
	}
	for _, o := range s.Objects() {
		l, _ := s.Line(o.Num)
		stand(l, "line of kind", o.Kind, o.Num)
	}
	for _, x := range s.Threads() {
		var want []string
		switch x.State {
		case api.Ready:
			want = []string{fmt.Sprint("queue", x.Domain, x.Prio)}
		case api.Sending, api.Calling, api.Getting, api.Faulting:
			want = []string{fmt.Sprint("line of kind", api.End, x.At)}
		case api.Hearing:
			want = []string{fmt.Sprint("line of kind", api.Bell, x.At)}
		}
		if !slices.Equal(stands[x.Num], want) {
			return fmt.Sprintf("%v stands in %v", x, stands[x.Num])
		}
		delete(stands, x.Num)
	}
	if len(stands) > 0 {
		return fmt.Sprintf("threads that are not there stand in %v", stands)
	}
	return ""
}

// TestSound: behind every tick, whatever the code does.
func TestSound(t *testing.T) {
	r := rand.New(rand.NewSource(3))
	for n := range 30 {
		s, p := alone(t, r, anyCode(r, n))
		idle := 0
		for tick := 0; tick < 700 && idle < 30; tick++ {
			idle++
			if s.Tick().Thread != api.None {
				idle = 0
			}
			wrong := sound(s)
			if wrong == "" && tick%20 == 0 {
				wrong = soundBytes(s)
			}
			if wrong != "" {
				t.Fatalf("system %d, behind %d ticks: %s", n, s.Ticks(), wrong)
			}
			happens(r, p.nums, s)
		}
	}
}

// TestSoundWhereSomebodyWaits: an end or bell goes, at which one waits in each way.
func TestSoundWhereSomebodyWaits(t *testing.T) {
	for name, x := range map[string]struct {
		kind, code string
		waits      int
		behind     int
	}{
		"sends":  {"end", "li x10, 0\nli x17, 1\necall", api.Sending, api.Ready},
		"calls":  {"end", "li x10, 0\nli x17, 3\necall", api.Calling, api.Ready},
		"gets":   {"end", "li x10, 0\nli x17, 4\necall", api.Getting, api.Ready},
		"hears":  {"bell", "li x10, 0\nli x17, 10\necall", api.Hearing, api.Ready},
		"faults": {"end", "li x10, 0\nli x17, 8\n.word 0", api.Faulting, api.Idle},
	} {
		s := boot(t, crew(x.kind+" e 0\n",
			member{"q", "cap xq 0 e rwg\ncap q 0 xq - guard 0 30", "6 ready 0", "li x10, 0\nli x17, 17\necall\nli x10, 0\nli x17, 16\necall"},
			member{"p", "cap xp 0 e rw from xq 0\ncap p 0 xp - guard 0 30\ncap p 2 e rw from xq 0", "7 ready 0", x.code}))
		for tick := range 15 {
			if h := s.Threads()[1]; tick > 4 && h.State != x.waits {
				t.Errorf("%s, behind %d ticks: it stands as %d", name, tick, h.State)
			}
			s.Tick()
			if wrong := sound(s); wrong != "" {
				t.Fatalf("%s, behind %d ticks: %s", name, s.Ticks(), wrong)
			}
		}
		if h := s.Threads()[1]; h.State != x.behind || h.At != api.None {
			t.Errorf("%s: behind that it is %v", name, h)
		}
	}
}
