package sched_test

import (
	"fmt"
	"math"
	"slices"
	"strings"
	"testing"

	"vault/api"
	"vault/sched"
)

func turn(domain, ticks int) api.Turn { return api.Turn{Domain: domain, Ticks: ticks} }

func is(t *testing.T, what string, e, want api.Errno) {
	t.Helper()
	if e != want {
		t.Errorf("%s: %d, wanted %d", what, e, want)
	}
}

// made is a scheduler of such turns.
func made(t *testing.T, turns ...api.Turn) *sched.Sched {
	t.Helper()
	s, e := sched.New(turns)
	if s == nil || e != api.OK {
		t.Fatalf("New(%v): %d", turns, e)
	}
	return s
}

// add adds threads to a domain and priority, which become ready in this order.
func add(t *testing.T, s *sched.Sched, domain, prio int, threads ...int) {
	t.Helper()
	for _, n := range threads {
		is(t, fmt.Sprint("Add ", n), s.Add(n, domain, prio), api.OK)
		is(t, fmt.Sprint("Ready ", n), s.Ready(n), api.OK)
	}
}

func next(t *testing.T, s *sched.Sched, want ...int) {
	t.Helper()
	var l []int
	for range want {
		l = append(l, s.Next())
	}
	if !slices.Equal(l, want) {
		t.Errorf("Next is %v, wanted %v", l, want)
	}
}

func isTurn(t *testing.T, s *sched.Sched, place, left int) {
	t.Helper()
	if p, l := s.Turn(); p != place || l != left {
		t.Errorf("Turn: %d, %d, wanted %d, %d", p, l, place, left)
	}
}

func isQueue(t *testing.T, s *sched.Sched, domain, prio int, want ...int) {
	t.Helper()
	if l, e := s.Queue(domain, prio); e != api.OK || !slices.Equal(l, want) {
		t.Errorf("Queue(%d, %d): %v, %d, wanted %v", domain, prio, l, e, want)
	}
}

func looks(t *testing.T, s *sched.Sched, thread, domain, prio, left int) {
	t.Helper()
	if d, p, l, e := s.Look(thread); d != domain || p != prio || l != left || e != api.OK {
		t.Errorf("Look(%d): %d, %d, %d, %d, wanted %d, %d, %d", thread, d, p, l, e, domain, prio, left)
	}
}

// isGone asks that there is no such thread, for any call.
func isGone(t *testing.T, s *sched.Sched, thread int) {
	t.Helper()
	for i, call := range []func() api.Errno{
		func() api.Errno { return s.Remove(thread) },
		func() api.Errno { return s.Ready(thread) },
		func() api.Errno { return s.Block(thread) },
		func() api.Errno { return s.Yield(thread) },
		func() api.Errno { return s.Prio(thread, 0) },
		func() api.Errno { return s.Prio(thread, 7) },
		func() api.Errno { return s.Prio(thread, 8) }, // there is none: that comes ahead of the priority
		func() api.Errno { return s.Prio(thread, -1) },
	} {
		refused(t, s, fmt.Sprint("thread ", thread, ", call ", i), api.ErrName, call)
	}
	if d, p, l, e := s.Look(thread); d != 0 || p != 0 || l != 0 || e != api.ErrName {
		t.Errorf("Look(%d): %d, %d, %d, %d", thread, d, p, l, e)
	}
}

// watched are the threads of which a picture tells.
func watched() []int {
	l := []int{-1, math.MaxInt, math.MinInt}
	for n := range 30 {
		l = append(l, n)
	}
	return l
}

// picture tells all that there is of a scheduler.
func picture(s *sched.Sched) string {
	var b strings.Builder
	place, left := s.Turn()
	fmt.Fprint(&b, "turn ", place, left)
	for _, n := range watched() {
		if d, p, l, e := s.Look(n); e == api.OK {
			fmt.Fprint(&b, " ", n, "=", d, p, l)
		}
	}
	for d := range api.MaxDomain {
		for p := range api.MaxPrio {
			if l, e := s.Queue(d, p); len(l) > 0 || e != api.OK {
				fmt.Fprint(&b, " ", d, p, l, e)
			}
		}
	}
	return b.String()
}

// refused asks also that all stands as it stood.
func refused(t *testing.T, s *sched.Sched, what string, want api.Errno, call func() api.Errno) {
	t.Helper()
	before := picture(s)
	is(t, what, call(), want)
	if now := picture(s); now != before {
		t.Errorf("%s changed %s to %s", what, before, now)
	}
}

func TestNew(t *testing.T) {
	for n := 1; n <= 16; n++ {
		list := make([]api.Turn, n)
		for i := range list {
			list[i] = turn(i%8, 1+i*999/15)
		}
		s := made(t, list...)
		isTurn(t, s, 0, 1)
		if is, want := picture(s), "turn 0 1"; is != want {
			t.Errorf("New is %s", is)
		}
	}
	for domain := range 8 {
		isTurn(t, made(t, turn(domain, 1000)), 0, 1000)
	}
}

func TestNewWrong(t *testing.T) {
	right := func(n int) []api.Turn {
		return slices.Repeat([]api.Turn{turn(7, 1000)}, n)
	}
	lists := [][]api.Turn{nil, {}, right(17), right(18), right(1000)}
	for _, wrong := range []api.Turn{
		turn(8, 1), turn(-1, 1), turn(9, 1), turn(math.MaxInt, 1), turn(math.MinInt, 1), turn(1<<32, 1),
		turn(0, 0), turn(0, -1), turn(0, 1001), turn(0, math.MaxInt), turn(0, math.MinInt), turn(0, 1<<32+1),
		turn(8, 0), turn(-1, 1001),
	} {
		for _, n := range []int{1, 2, 16} {
			for place := range n {
				list := right(n)
				list[place] = wrong
				lists = append(lists, list)
			}
		}
	}
	for _, list := range lists {
		before := slices.Clone(list)
		if s, e := sched.New(list); s != nil || e != api.ErrArg {
			t.Errorf("New(%v): %v, %d", list, s, e)
		}
		if !slices.Equal(list, before) {
			t.Errorf("New changed %v to %v", before, list)
		}
	}
}

// TestNewKeepsNot: what becomes of the list is not to be seen, nor of what lies behind it.
func TestNewKeepsNot(t *testing.T) {
	room := []api.Turn{turn(0, 1), turn(1, 2), turn(2, 3)}
	s := made(t, room[:2]...)
	add(t, s, 0, 0, 10)
	add(t, s, 1, 0, 11)
	for i := range room {
		room[i] = turn(5, 9)
	}
	next(t, s, 10, 11, 11, 10, 11, 11, 10)
	if !slices.Equal(room, []api.Turn{turn(5, 9), turn(5, 9), turn(5, 9)}) {
		t.Errorf("the list is %v", room)
	}
}

func TestAdd(t *testing.T) {
	s := made(t, turn(0, 1000))
	n := 0
	for domain := range 8 {
		for prio := range 8 {
			is(t, "Add", s.Add(n, domain, prio), api.OK)
			looks(t, s, n, domain, prio, 0)
			isQueue(t, s, domain, prio)
			n++
		}
	}
	is(t, "Add", s.Add(math.MaxInt, 7, 7), api.OK)
	looks(t, s, math.MaxInt, 7, 7, 0)
	refused(t, s, "Block", api.ErrState, func() api.Errno { return s.Block(math.MaxInt) })
	next(t, s, api.None)
}

func TestAddWrong(t *testing.T) {
	s := made(t, turn(3, 1000))
	add(t, s, 3, 2, 1, 2)
	is(t, "Add", s.Add(3, 4, 5), api.OK)
	next(t, s, 1, 1)
	odd := []int{-1, 8, 9, math.MaxInt, math.MinInt, 1 << 32, -8}
	for _, n := range []int{1, 3, 4} {
		for _, wrong := range odd {
			for _, right := range []int{0, 3, 7} {
				refused(t, s, fmt.Sprint("Add ", n, wrong, right), api.ErrArg, func() api.Errno { return s.Add(n, wrong, right) })
				refused(t, s, fmt.Sprint("Add ", n, right, wrong), api.ErrArg, func() api.Errno { return s.Add(n, right, wrong) })
			}
			refused(t, s, fmt.Sprint("Add ", n, wrong, wrong), api.ErrArg, func() api.Errno { return s.Add(n, wrong, wrong) })
		}
	}
	for _, n := range []int{-1, -2, math.MinInt} {
		refused(t, s, fmt.Sprint("Add ", n), api.ErrArg, func() api.Errno { return s.Add(n, 0, 0) })
		isGone(t, s, n)
	}
	for _, n := range []int{1, 2, 3} {
		for _, domain := range []int{0, 3, 4} {
			for prio := range 8 {
				refused(t, s, fmt.Sprint("Add ", n), api.ErrTwice, func() api.Errno { return s.Add(n, domain, prio) })
			}
		}
	}
	isGone(t, s, 4)
}

func TestRemove(t *testing.T) {
	s := made(t, turn(0, 1000))
	add(t, s, 0, 1, 5, 6, 7, 8)
	is(t, "Add", s.Add(9, 0, 1), api.OK)
	next(t, s, 5, 5)
	is(t, "Remove", s.Remove(7), api.OK)
	isGone(t, s, 7)
	isQueue(t, s, 0, 1, 5, 6, 8)
	is(t, "Remove", s.Remove(9), api.OK) // it was not ready
	isGone(t, s, 9)
	isQueue(t, s, 0, 1, 5, 6, 8)
	is(t, "Remove", s.Remove(5), api.OK) // the first one
	isQueue(t, s, 0, 1, 6, 8)
	is(t, "Remove", s.Remove(8), api.OK) // the last one
	isQueue(t, s, 0, 1, 6)
	next(t, s, 6)
	is(t, "Remove", s.Remove(6), api.OK)
	isQueue(t, s, 0, 1)
	next(t, s, api.None)
	// One of the same number is another thread.
	is(t, "Add", s.Add(5, 2, 3), api.OK)
	looks(t, s, 5, 2, 3, 0)
	is(t, "Ready", s.Ready(5), api.OK)
	isQueue(t, s, 2, 3, 5)
	isQueue(t, s, 0, 1)
	for _, n := range []int{6, 7, 8, 9, 4, -1, math.MaxInt, math.MinInt} {
		isGone(t, s, n)
	}
}

func TestStates(t *testing.T) {
	s := made(t, turn(0, 1000))
	is(t, "Add", s.Add(1, 0, 4), api.OK)
	add(t, s, 0, 4, 2)
	refused(t, s, "Block", api.ErrState, func() api.Errno { return s.Block(1) })
	refused(t, s, "Yield", api.ErrState, func() api.Errno { return s.Yield(1) })
	is(t, "Ready", s.Ready(1), api.OK)
	looks(t, s, 1, 0, 4, 5)
	isQueue(t, s, 0, 4, 2, 1)
	refused(t, s, "Ready", api.ErrState, func() api.Errno { return s.Ready(1) })
	refused(t, s, "Ready", api.ErrState, func() api.Errno { return s.Ready(2) })
	next(t, s, 2, 2, 2, 2, 2)
	// What has used up its slice is ready none the less.
	looks(t, s, 2, 0, 4, 0)
	refused(t, s, "Ready", api.ErrState, func() api.Errno { return s.Ready(2) })
	is(t, "Block", s.Block(2), api.OK)
	looks(t, s, 2, 0, 4, 0)
	isQueue(t, s, 0, 4, 1)
	refused(t, s, "Block", api.ErrState, func() api.Errno { return s.Block(2) })
	refused(t, s, "Yield", api.ErrState, func() api.Errno { return s.Yield(2) })
	next(t, s, 1, 1)
	is(t, "Block", s.Block(1), api.OK)
	looks(t, s, 1, 0, 4, 0)
	isQueue(t, s, 0, 4)
	next(t, s, api.None)
	is(t, "Ready", s.Ready(1), api.OK)
	looks(t, s, 1, 0, 4, 5)
}

func TestYield(t *testing.T) {
	s := made(t, turn(0, 1000))
	add(t, s, 0, 0, 1, 2, 3)
	next(t, s, 1, 1)
	is(t, "Yield", s.Yield(1), api.OK)
	isQueue(t, s, 0, 0, 2, 3, 1)
	looks(t, s, 1, 0, 0, 5)
	next(t, s, 2)
	is(t, "Yield", s.Yield(3), api.OK) // one that is not first
	isQueue(t, s, 0, 0, 2, 1, 3)
	looks(t, s, 2, 0, 0, 4)
	next(t, s, 2, 2, 2, 2, 1, 1, 1, 1, 1, 3)
	is(t, "Yield", s.Yield(2), api.OK) // the last but one
	isQueue(t, s, 0, 0, 3, 1, 2)
	is(t, "Yield", s.Yield(2), api.OK) // the last one
	isQueue(t, s, 0, 0, 3, 1, 2)
	is(t, "Remove", s.Remove(3), api.OK)
	is(t, "Remove", s.Remove(1), api.OK)
	next(t, s, 2, 2)
	looks(t, s, 2, 0, 0, 3)
	is(t, "Yield", s.Yield(2), api.OK) // the only one
	looks(t, s, 2, 0, 0, 5)
	isQueue(t, s, 0, 0, 2)
}

func TestPrio(t *testing.T) {
	s := made(t, turn(1, 1000))
	add(t, s, 1, 3, 1, 2, 3)
	next(t, s, 1, 1)
	is(t, "Prio", s.Prio(1, 3), api.OK) // the one that it had
	isQueue(t, s, 1, 3, 2, 3, 1)
	looks(t, s, 1, 1, 3, 5)
	is(t, "Prio", s.Prio(3, 7), api.OK)
	isQueue(t, s, 1, 3, 2, 1)
	isQueue(t, s, 1, 7, 3)
	looks(t, s, 3, 1, 7, 5)
	next(t, s, 3, 3)
	is(t, "Prio", s.Prio(3, 3), api.OK)
	isQueue(t, s, 1, 7)
	isQueue(t, s, 1, 3, 2, 1, 3)
	looks(t, s, 3, 1, 3, 5)
	next(t, s, 2)
	is(t, "Prio", s.Prio(2, 0), api.OK)
	looks(t, s, 2, 1, 0, 5)
	isQueue(t, s, 1, 0, 2)
	next(t, s, 1, 1, 1, 1, 1, 3)
	for prio := range 8 {
		is(t, "Prio", s.Prio(2, prio), api.OK)
		looks(t, s, 2, 1, prio, 5)
	}
	next(t, s, 2)
}

// TestPrioNotReady: it is not ready behind it, and its queue is seen only when it becomes ready.
func TestPrioNotReady(t *testing.T) {
	s := made(t, turn(1, 1000))
	add(t, s, 1, 3, 1)
	is(t, "Add", s.Add(2, 1, 3), api.OK)
	for prio := range 8 {
		is(t, "Prio", s.Prio(2, prio), api.OK)
		looks(t, s, 2, 1, prio, 0)
		refused(t, s, "Block", api.ErrState, func() api.Errno { return s.Block(2) })
	}
	isQueue(t, s, 1, 7)
	isQueue(t, s, 1, 3, 1)
	next(t, s, 1)
	is(t, "Ready", s.Ready(2), api.OK)
	isQueue(t, s, 1, 7, 2)
	next(t, s, 2)
}

func TestPrioWrong(t *testing.T) {
	s := made(t, turn(1, 1000))
	add(t, s, 1, 3, 1, 2)
	is(t, "Add", s.Add(3, 1, 3), api.OK)
	next(t, s, 1, 1, 1)
	for _, n := range []int{1, 2, 3} {
		for _, prio := range []int{-1, 8, 9, 1 << 32, math.MaxInt, math.MinInt} {
			refused(t, s, fmt.Sprint("Prio ", n, prio), api.ErrArg, func() api.Errno { return s.Prio(n, prio) })
		}
	}
}

func TestQueueWrong(t *testing.T) {
	s := made(t, turn(0, 1000))
	add(t, s, 0, 0, 1)
	add(t, s, 7, 7, 2)
	for _, wrong := range []int{-1, 8, 9, 1 << 32, math.MaxInt, math.MinInt} {
		for _, at := range [][2]int{{wrong, 0}, {wrong, 7}, {0, wrong}, {7, wrong}, {wrong, wrong}} {
			if l, e := s.Queue(at[0], at[1]); len(l) != 0 || e != api.ErrArg {
				t.Errorf("Queue(%v): %v, %d", at, l, e)
			}
		}
	}
	isQueue(t, s, 7, 7, 2)
	isQueue(t, s, 7, 0)
}

// TestQueueIsNew: what is done to a list is not seen, and a list stays as it was told.
func TestQueueIsNew(t *testing.T) {
	s := made(t, turn(0, 1000))
	add(t, s, 0, 0, 1, 2, 3, 4, 5)
	a, _ := s.Queue(0, 0)
	b, _ := s.Queue(0, 0)
	for i := range a[:cap(a)] {
		a[:cap(a)][i] = 99
	}
	isQueue(t, s, 0, 0, 1, 2, 3, 4, 5)
	next(t, s, 1)
	s.Remove(1)
	s.Yield(2)
	s.Prio(3, 4)
	add(t, s, 0, 0, 6)
	if !slices.Equal(b, []int{1, 2, 3, 4, 5}) {
		t.Errorf("the list is %v now", b)
	}
	isQueue(t, s, 0, 0, 4, 5, 2, 6)
	if a[:1][0] != 99 {
		t.Errorf("the list is %v now", a)
	}
}

// TestApart: what one scheduler does is not seen at another, also of one list.
func TestApart(t *testing.T) {
	list := []api.Turn{turn(0, 2), turn(1, 1)}
	a, b := made(t, list...), made(t, list...)
	add(t, a, 0, 0, 1, 2)
	next(t, a, 1, 1)
	if is := picture(b); is != "turn 0 2" {
		t.Errorf("the other one is %s", is)
	}
	isGone(t, b, 1)
	add(t, b, 0, 0, 2, 1)
	next(t, b, 2)
	isTurn(t, a, 0, 0)
	isQueue(t, a, 0, 0, 1, 2)
	looks(t, a, 1, 0, 0, 3)
}
