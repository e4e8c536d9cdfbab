package sched_test

import (
	"testing"

	"vault/api"
)

func TestExample(t *testing.T) {
	s := made(t, turn(0, 2), turn(1, 1))
	add(t, s, 0, 0, 10, 11)
	next(t, s, 10, 10, api.None, 10, 10, api.None, 10, 11, api.None)
}

// TestTurns: each turn has its ticks, whether somebody runs or not; the next one begins with a tick, and not ahead of it.
func TestTurns(t *testing.T) {
	s := made(t, turn(2, 3), turn(0, 1), turn(2, 2))
	isTurn(t, s, 0, 3)
	round := [][2]int{{0, 2}, {0, 1}, {0, 0}, {1, 0}, {2, 1}, {2, 0}}
	for i := range 20 {
		if i == 10 {
			add(t, s, 2, 0, 1)
			isTurn(t, s, 1, 0)
		}
		s.Next()
		isTurn(t, s, round[i%6][0], round[i%6][1])
		isTurn(t, s, round[i%6][0], round[i%6][1])
	}
}

// TestOneTurn: it begins again behind itself.
func TestOneTurn(t *testing.T) {
	s := made(t, turn(7, 1000))
	for round := range 3 {
		for left := 999; left >= 0; left-- {
			next(t, s, api.None)
			if round < 2 || left > 990 {
				isTurn(t, s, 0, left)
			}
		}
	}
	s = made(t, turn(7, 1))
	isTurn(t, s, 0, 1)
	for range 5 {
		next(t, s, api.None)
		isTurn(t, s, 0, 0)
	}
}

// TestDomains: a domain's threads run in its turns alone, whatever their priorities.
func TestDomains(t *testing.T) {
	var turns []api.Turn
	for i := range 16 {
		turns = append(turns, turn((i*3)%8, 1+i%2))
	}
	s := made(t, turns...)
	for domain := range 8 {
		add(t, s, domain, 7-domain, 100+domain)
	}
	for range 3 {
		for _, x := range turns {
			for range x.Ticks {
				next(t, s, 100+x.Domain)
			}
		}
	}
	// Domain 4 has turns, but nobody there is ready; domain 5 has turns, and nobody at all.
	is(t, "Block", s.Block(104), api.OK)
	is(t, "Remove", s.Remove(105), api.OK)
	for _, x := range turns {
		for range x.Ticks {
			if x.Domain == 4 || x.Domain == 5 {
				next(t, s, api.None)
			} else {
				next(t, s, 100+x.Domain)
			}
		}
	}
}

// TestNoTurn: whose domain has no turn is never told.
func TestNoTurn(t *testing.T) {
	s := made(t, turn(1, 2), turn(3, 2))
	for _, domain := range []int{0, 2, 4, 5, 6, 7} {
		add(t, s, domain, 7, domain)
	}
	for range 10 {
		next(t, s, api.None)
	}
	looks(t, s, 2, 2, 7, 5)
	isQueue(t, s, 2, 7, 2)
}

// TestPriorities: the highest one is taken, and of it the first; the lower ones stay as they are.
func TestPriorities(t *testing.T) {
	s := made(t, turn(0, 1000))
	for prio := range 8 {
		add(t, s, 0, prio, prio, 10+prio)
	}
	for prio := 7; prio >= 0; prio-- {
		next(t, s, prio, prio, prio, prio, prio, 10+prio, 10+prio, 10+prio)
		isQueue(t, s, 0, prio, 10+prio, prio)
		for lower := range prio {
			looks(t, s, lower, 0, lower, 5)
			isQueue(t, s, 0, lower, lower, 10+lower)
		}
		is(t, "Block", s.Block(10+prio), api.OK)
		next(t, s, prio)
		is(t, "Block", s.Block(prio), api.OK)
	}
	next(t, s, api.None)
}

// TestHigher: one of a higher priority is told at once, and the other goes on then with what it had left.
func TestHigher(t *testing.T) {
	s := made(t, turn(0, 1000))
	add(t, s, 0, 2, 1, 2)
	next(t, s, 1, 1, 1)
	add(t, s, 0, 3, 3)
	next(t, s, 3, 3, 3, 3, 3, 3, 3)
	looks(t, s, 1, 0, 2, 2)
	looks(t, s, 3, 0, 3, 3)
	is(t, "Block", s.Block(3), api.OK)
	next(t, s, 1, 1, 2)
	is(t, "Ready", s.Ready(3), api.OK)
	next(t, s, 3)
	looks(t, s, 3, 0, 3, 4)
	add(t, s, 0, 1, 4)
	next(t, s, 3)
	is(t, "Remove", s.Remove(3), api.OK)
	next(t, s, 2, 2, 2, 2, 1)
}

// TestSlices: who has used up its slice stays first till the next tick of its queue.
func TestSlices(t *testing.T) {
	s := made(t, turn(0, 1000))
	add(t, s, 0, 0, 1, 2, 3)
	order := [][]int{{1, 2, 3}, {2, 3, 1}, {3, 1, 2}}
	for i := range 12 {
		q := order[i%3]
		for left := 4; left >= 0; left-- {
			next(t, s, q[0])
			isQueue(t, s, 0, 0, q...)
			looks(t, s, q[0], 0, 0, left)
			looks(t, s, q[1], 0, 0, 5)
			looks(t, s, q[2], 0, 0, 5)
		}
	}
}

// TestAlone: the only one of a queue gets a new slice when its own is used up.
func TestAlone(t *testing.T) {
	s := made(t, turn(0, 1000))
	add(t, s, 0, 0, 1)
	looks(t, s, 1, 0, 0, 5)
	for i := range 23 {
		next(t, s, 1)
		looks(t, s, 1, 0, 0, 4-i%5)
		isQueue(t, s, 0, 0, 1)
	}
}

// TestUsedUp: one that comes while the first has nothing left of its slice stands ahead of it in the next tick.
func TestUsedUp(t *testing.T) {
	s := made(t, turn(0, 1000))
	add(t, s, 0, 0, 1)
	next(t, s, 1, 1, 1, 1, 1)
	add(t, s, 0, 0, 2)
	isQueue(t, s, 0, 0, 1, 2)
	next(t, s, 2)
	isQueue(t, s, 0, 0, 2, 1)
	looks(t, s, 1, 0, 0, 5)
	looks(t, s, 2, 0, 0, 4)
	// By Yield and Prio it has a new slice at once.
	next(t, s, 2, 2, 2, 2)
	is(t, "Yield", s.Yield(2), api.OK)
	looks(t, s, 2, 0, 0, 5)
	next(t, s, 1, 1, 1, 1, 1)
	is(t, "Prio", s.Prio(1, 1), api.OK)
	looks(t, s, 1, 0, 1, 5)
	next(t, s, 1, 1, 1, 1, 1)
	is(t, "Block", s.Block(1), api.OK)
	is(t, "Ready", s.Ready(1), api.OK)
	looks(t, s, 1, 0, 1, 5)
}

// TestSliceOverTurns: what is left of a slice outlasts the turns of others, and those in which nobody runs.
func TestSliceOverTurns(t *testing.T) {
	s := made(t, turn(0, 3), turn(1, 4), turn(2, 1))
	add(t, s, 0, 5, 1, 2)
	add(t, s, 1, 5, 3, 4)
	const none = api.None
	next(t, s, 1, 1, 1, 3, 3, 3, 3, none)
	looks(t, s, 1, 0, 5, 2)
	looks(t, s, 3, 1, 5, 1)
	next(t, s, 1, 1, 2, 3, 4, 4, 4, none)
	next(t, s, 2, 2, 2, 4, 4, 3, 3, none)
	next(t, s, 2, 1, 1, 3, 3, 3, 4, none)
}

// TestRemoved: the one behind a thread that goes has a whole slice.
func TestRemoved(t *testing.T) {
	s := made(t, turn(0, 1000))
	add(t, s, 0, 0, 1, 2)
	next(t, s, 1, 1, 1, 1)
	is(t, "Remove", s.Remove(1), api.OK)
	is(t, "Add", s.Add(1, 0, 0), api.OK)
	looks(t, s, 1, 0, 0, 0)
	next(t, s, 2, 2, 2, 2, 2, 2)
	is(t, "Ready", s.Ready(1), api.OK)
	next(t, s, 2, 2, 2, 2, 1)
}
