package ipc_test

import (
	"fmt"
	"math"
	"testing"

	"vault/api"
)

// bits is what one hears of a bell: noughts, but for the badge.
func bits(peer int, badge uint32) api.Outcome {
	return api.Outcome{Peer: peer, Msg: api.Message{Badge: badge}}
}

func TestRingKeeps(t *testing.T) {
	b := made(t)
	for _, x := range []struct{ badge, word uint32 }{{0, 0}, {1, 1}, {4, 5}, {5, 5}, {0, 5}, {1 << 31, 1<<31 | 5}, {math.MaxUint32, math.MaxUint32}, {2, math.MaxUint32}} {
		is(t, "Ring", b.Ring(6, x.badge), nothing)
		isWord(t, b, 6, x.word)
	}
	isWord(t, b, 8, 0)
	is(t, "Hear", b.Hear(6, 1, false), bits(-1, math.MaxUint32))
	isWord(t, b, 6, 0)
	refused(t, b, "Hear", api.ErrWait, func() api.Outcome { return b.Hear(6, 1, false) })
}

// TestHearKept: what was kept is heard at once, by one that may wait and by one that may not.
func TestHearKept(t *testing.T) {
	b := made(t)
	for _, may := range []bool{false, true} {
		b.Ring(6, 1)
		b.Ring(6, 4)
		is(t, "Hear", b.Hear(6, 3, may), bits(-1, 5))
		isNowhere(t, b, 3)
		isLine(t, b, 6)
		isWord(t, b, 6, 0)
	}
}

// TestRingNought: badge 0 wakes who waits, and is not heard behind that.
func TestRingNought(t *testing.T) {
	b := made(t)
	is(t, "Ring", b.Ring(6, 0), nothing)
	refused(t, b, "Hear", api.ErrWait, func() api.Outcome { return b.Hear(6, 1, false) })
	is(t, "Hear", b.Hear(6, 1, true), waits)
	is(t, "Ring", b.Ring(6, 0), bits(1, 0))
	isNowhere(t, b, 1)
	isLine(t, b, 6)
}

func TestHearers(t *testing.T) {
	b := made(t)
	threads := []int{9, 1, 4, 3, 2, 8}
	for _, n := range threads {
		is(t, "Hear", b.Hear(6, n, true), waits)
		isAt(t, b, n, 6, api.Hearing)
	}
	is(t, "Hear", b.Hear(8, 10, true), waits)
	isLine(t, b, 6, threads...)
	refused(t, b, "Hear", api.ErrWait, func() api.Outcome { return b.Hear(6, 20, false) })
	for i, n := range threads {
		is(t, "Ring", b.Ring(6, 1<<i|1<<31), bits(n, 1<<i|1<<31))
		isWord(t, b, 6, 0)
		isLine(t, b, 6, threads[i+1:]...)
		isNowhere(t, b, n)
	}
	isLine(t, b, 8, 10)
	is(t, "Ring", b.Ring(6, 2), nothing)
	isWord(t, b, 6, 2)
	is(t, "Hear", b.Hear(6, 9, true), bits(-1, 2))
}

// TestBellNames: no bell is told ahead of how the thread stands.
func TestBellNames(t *testing.T) {
	b := made(t)
	b.Get(5, 1, true)
	b.Send(7, 2, api.Calling, letter(2))
	b.Hear(8, 3, true)
	b.Ring(6, 12)
	for thread := 1; thread <= 4; thread++ {
		for _, num := range []int{5, 7, 4, 9, 0, -1, math.MaxInt, math.MinInt, 1<<32 + 6} {
			isNoBell(t, b, num, thread)
		}
	}
}

// TestHearsAlready: one that waits hears no bell, its own among them, not even one that has kept something.
func TestHearsAlready(t *testing.T) {
	b := made(t)
	is(t, "Open", b.Open(10, true), api.OK)
	b.Get(5, 1, true)
	b.Send(7, 2, api.Sending, letter(2))
	b.Hear(6, 3, true)
	b.Ring(8, 5)
	for thread := 1; thread <= 3; thread++ {
		for _, num := range []int{6, 8, 10} {
			for _, may := range []bool{false, true} {
				refused(t, b, fmt.Sprint("Hear ", num, " by ", thread), api.ErrState, func() api.Outcome { return b.Hear(num, thread, may) })
			}
		}
	}
	is(t, "Hear", b.Hear(8, 4, true), bits(-1, 5))
	is(t, "Ring", b.Ring(6, 7), bits(3, 7))
	is(t, "Hear", b.Hear(8, 3, true), waits)
}
