package sched_test

import (
	"fmt"
	"math"
	"math/rand"
	"slices"
	"testing"

	"vault/api"
	"vault/sched"
)

// model tells the chapter once more: there are no queues, but each thread that is ready has the time at which it came, and the turn follows from how many ticks there were.
type model struct {
	turns   []api.Turn
	ticks   int
	time    int
	threads []*thread
}

type thread struct {
	num, domain, prio int
	came              int // 0: it is not ready
	used              int // of its slice
}

func (m *model) turn() (place, left int) {
	if m.ticks == 0 {
		return 0, m.turns[0].Ticks
	}
	round := 0
	for _, x := range m.turns {
		round += x.Ticks
	}
	last := (m.ticks - 1) % round
	for last >= m.turns[place].Ticks {
		last -= m.turns[place].Ticks
		place++
	}
	return place, m.turns[place].Ticks - 1 - last
}

func (m *model) find(num int) *thread {
	for _, x := range m.threads {
		if x.num == num {
			return x
		}
	}
	return nil
}

func (m *model) come(x *thread) {
	m.time++
	x.came, x.used = m.time, 0
}

func (m *model) queue(domain, prio int) (l []*thread) {
	for _, x := range m.threads {
		if x.domain == domain && x.prio == prio && x.came > 0 {
			l = append(l, x)
		}
	}
	slices.SortFunc(l, func(a, b *thread) int { return a.came - b.came })
	return l
}

func (m *model) next() int {
	m.ticks++
	place, _ := m.turn()
	for prio := range 8 {
		domain := m.turns[place].Domain
		l := m.queue(domain, 7-prio)
		if len(l) == 0 {
			continue
		}
		if l[0].used == 5 {
			m.come(l[0])
			l = m.queue(domain, 7-prio)
		}
		l[0].used++
		return l[0].num
	}
	return -1
}

func (m *model) add(num, domain, prio int) api.Errno {
	switch {
	case num < 0, domain < 0, prio < 0, domain > 7, prio > 7:
		return api.ErrArg
	case m.find(num) != nil:
		return api.ErrTwice
	}
	m.threads = append(m.threads, &thread{num: num, domain: domain, prio: prio})
	return api.OK
}

// change does what a call says to a thread that is there.
func (m *model) change(call string, num, prio int) api.Errno {
	x := m.find(num)
	switch {
	case x == nil:
		return api.ErrName
	case call == "Ready" && x.came > 0, (call == "Block" || call == "Yield") && x.came == 0:
		return api.ErrState
	case call == "Prio" && (prio < 0 || prio > 7):
		return api.ErrArg
	}
	switch call {
	case "Remove":
		m.threads = slices.DeleteFunc(m.threads, func(y *thread) bool { return x == y })
	case "Ready", "Yield":
		m.come(x)
	case "Block":
		x.came = 0
	case "Prio":
		x.prio = prio
		if x.came > 0 {
			m.come(x)
		}
	}
	return api.OK
}

func (m *model) look(num int) (domain, prio, left int, e api.Errno) {
	x := m.find(num)
	if x == nil {
		return 0, 0, 0, api.ErrName
	}
	if x.came > 0 {
		left = 5 - x.used
	}
	return x.domain, x.prio, left, api.OK
}

// odd is now and then a number that hardly fits.
func odd(r *rand.Rand, number int) int {
	if r.Intn(30) == 0 {
		return []int{-1, 8, 9, 16, math.MaxInt, math.MinInt, number + 1, number - 1}[r.Intn(8)]
	}
	return number
}

// step makes one call of both, and tells what each answered.
func (m *model) step(s *sched.Sched, r *rand.Rand) (call string, got, want int) {
	num, prio := odd(r, r.Intn(14)), odd(r, r.Intn(3)*3)
	switch n := r.Intn(40); {
	case n < 22:
		return "Next", s.Next(), m.next()
	case n < 28:
		domain := odd(r, m.turns[r.Intn(len(m.turns))].Domain)
		return "Add", int(s.Add(num, domain, prio)), int(m.add(num, domain, prio))
	case n < 29:
		return "Remove", int(s.Remove(num)), int(m.change("Remove", num, 0))
	case n < 34:
		return "Ready", int(s.Ready(num)), int(m.change("Ready", num, 0))
	case n < 36:
		return "Block", int(s.Block(num)), int(m.change("Block", num, 0))
	case n < 38:
		return "Yield", int(s.Yield(num)), int(m.change("Yield", num, 0))
	}
	return "Prio", int(s.Prio(num, prio)), int(m.change("Prio", num, prio))
}

// differs tells in what the two stand otherwise; "": in nothing.
func (m *model) differs(s *sched.Sched) string {
	place, left := s.Turn()
	if p, l := m.turn(); p != place || l != left {
		return fmt.Sprintf("Turn: %d, %d, wanted %d, %d", place, left, p, l)
	}
	for _, num := range watched() {
		d, p, l, e := s.Look(num)
		if wd, wp, wl, we := m.look(num); d != wd || p != wp || l != wl || e != we {
			return fmt.Sprintf("Look(%d): %d, %d, %d, %d, wanted %d, %d, %d, %d", num, d, p, l, e, wd, wp, wl, we)
		}
	}
	for d := range 8 {
		for p := range 8 {
			l, e := s.Queue(d, p)
			want := m.queue(d, p)
			if e != api.OK || !slices.EqualFunc(l, want, func(a int, b *thread) bool { return a == b.num }) {
				return fmt.Sprintf("Queue(%d, %d): %v, %d", d, p, l, e)
			}
		}
	}
	return ""
}

func TestModel(t *testing.T) {
	r := rand.New(rand.NewSource(7))
	met := map[string]int{}
	for range 40 {
		turns := make([]api.Turn, 1+r.Intn(4))
		for i := range turns {
			turns[i] = turn(r.Intn(8), 1+r.Intn(12))
		}
		s, m := made(t, turns...), &model{turns: turns}
		for range 1000 {
			call, got, want := m.step(s, r)
			if call == "Next" {
				met[fmt.Sprint(call, want >= 0)]++
			} else {
				met[fmt.Sprint(call, want)]++
			}
			if got != want {
				t.Fatalf("%v: %s: %d, wanted %d", turns, call, got, want)
			}
			if d := m.differs(s); d != "" {
				t.Fatalf("%v: behind %s: %s", turns, call, d)
			}
		}
	}
	for call, errs := range map[string][]api.Errno{
		"Add":    {api.OK, api.ErrArg, api.ErrTwice},
		"Remove": {api.OK, api.ErrName},
		"Ready":  {api.OK, api.ErrName, api.ErrState},
		"Block":  {api.OK, api.ErrName, api.ErrState},
		"Yield":  {api.OK, api.ErrName, api.ErrState},
		"Prio":   {api.OK, api.ErrName, api.ErrArg},
	} {
		for _, e := range errs {
			if n := met[fmt.Sprint(call, int(e))]; n < 20 {
				t.Errorf("%s answers %d only %d times", call, e, n)
			}
		}
	}
	if met["Nexttrue"] < 1000 || met["Nextfalse"] < 1000 {
		t.Errorf("Next: %v", met)
	}
}

// TestModelFull: many threads in few queues, whose slices run out again and again.
func TestModelFull(t *testing.T) {
	r := rand.New(rand.NewSource(7))
	turns := []api.Turn{turn(4, 7), turn(0, 1), turn(4, 1000)}
	s, m := made(t, turns...), &model{turns: turns}
	for num := range 28 {
		domain, prio := 4*(num%2), num%3
		is(t, "Add", s.Add(num, domain, prio), m.add(num, domain, prio))
		is(t, "Ready", s.Ready(num), m.change("Ready", num, 0))
	}
	for range 8000 {
		if got, want := s.Next(), m.next(); got != want {
			t.Fatalf("Next: %d, wanted %d", got, want)
		}
		num := r.Intn(28)
		switch r.Intn(50) {
		case 0:
			is(t, "Yield", s.Yield(num), m.change("Yield", num, 0))
		case 1:
			is(t, "Block", s.Block(num), m.change("Block", num, 0))
		case 2, 3:
			is(t, "Ready", s.Ready(num), m.change("Ready", num, 0))
		}
		if d := m.differs(s); d != "" {
			t.Fatal(d)
		}
	}
}
