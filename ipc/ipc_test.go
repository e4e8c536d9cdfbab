package ipc_test

import (
	"fmt"
	"math"
	"slices"
	"strings"
	"testing"

	"vault/api"
	"vault/ipc"
)

var (
	waits   = api.Outcome{Peer: api.None, Waits: true}
	nothing = api.Outcome{Peer: api.None}
)

func failed(e api.Errno) api.Outcome { return api.Outcome{Err: e, Peer: api.None} }

// letter is a message of which each part is another for each number.
func letter(n uint32) api.Message {
	return api.Message{Label: n, Words: [api.Words]uint32{n + 100, n + 200, n + 300, n + 400}, Badge: n + 500}
}

func is(t *testing.T, what string, got, want any) {
	t.Helper()
	if got != want {
		t.Errorf("%s: %v, wanted %v", what, got, want)
	}
}

// made is a bus with the ends 5 and 7 and the bells 6 and 8.
func made(t *testing.T) *ipc.Bus {
	t.Helper()
	b := ipc.New()
	if b == nil {
		t.Fatal("no bus")
	}
	for n := 5; n <= 8; n++ {
		is(t, fmt.Sprint("Open ", n), b.Open(n, n%2 == 0), api.OK)
	}
	return b
}

func isLine(t *testing.T, b *ipc.Bus, num int, want ...int) {
	t.Helper()
	if l, e := b.Line(num); e != api.OK || !slices.Equal(l, want) {
		t.Errorf("Line(%d): %v, %d, wanted %v", num, l, e, want)
	}
}

func isAt(t *testing.T, b *ipc.Bus, thread, num, how int) {
	t.Helper()
	if p, h := b.Where(thread); p != num || h != how {
		t.Errorf("Where(%d): %d, %d, wanted %d, %d", thread, p, h, num, how)
	}
}

func isNowhere(t *testing.T, b *ipc.Bus, threads ...int) {
	t.Helper()
	for _, n := range threads {
		isAt(t, b, n, -1, 0)
	}
}

func isWord(t *testing.T, b *ipc.Bus, num int, want uint32) {
	t.Helper()
	if w, e := b.Word(num); e != api.OK || w != want {
		t.Errorf("Word(%d): %#x, %d, wanted %#x", num, w, e, want)
	}
}

// watched are the places and threads of which a picture tells.
func watched() []int {
	l := []int{-2, -1, math.MaxInt, math.MinInt}
	for n := range 16 {
		l = append(l, n)
	}
	return l
}

// picture tells all that there is of a bus, but what those say who send.
func picture(b *ipc.Bus) string {
	var s strings.Builder
	for _, n := range watched() {
		l, e := b.Line(n)
		w, we := b.Word(n)
		if e != api.ErrName || we != api.ErrName {
			fmt.Fprint(&s, " ", n, l, e, w, we)
		}
		if p, h := b.Where(n); p != api.None || h != 0 {
			fmt.Fprint(&s, " ", n, "@", p, h)
		}
	}
	return s.String()
}

// refused asks also that all stands as it stood.
func refused(t *testing.T, b *ipc.Bus, what string, want api.Errno, call func() api.Outcome) {
	t.Helper()
	before := picture(b)
	is(t, what, call(), failed(want))
	is(t, what+" left", picture(b), before)
}

// isNoEnd asks that there is no such end, for any call, ahead of how the thread stands.
func isNoEnd(t *testing.T, b *ipc.Bus, num, thread int) {
	t.Helper()
	for _, how := range []int{api.Ready, api.Sending, api.Calling, api.Faulting} {
		refused(t, b, fmt.Sprint("Send to ", num, how), api.ErrName, func() api.Outcome { return b.Send(num, thread, how, letter(1)) })
	}
	for _, may := range []bool{false, true} {
		refused(t, b, fmt.Sprint("Get at ", num), api.ErrName, func() api.Outcome { return b.Get(num, thread, may) })
	}
}

func isNoBell(t *testing.T, b *ipc.Bus, num, thread int) {
	t.Helper()
	for _, badge := range []uint32{0, 1, math.MaxUint32} {
		refused(t, b, fmt.Sprint("Ring ", num), api.ErrName, func() api.Outcome { return b.Ring(num, badge) })
	}
	for _, may := range []bool{false, true} {
		refused(t, b, fmt.Sprint("Hear ", num), api.ErrName, func() api.Outcome { return b.Hear(num, thread, may) })
	}
	if w, e := b.Word(num); w != 0 || e != api.ErrName {
		t.Errorf("Word(%d): %d, %d", num, w, e)
	}
}

// isGone asks that there is no such place.
func isGone(t *testing.T, b *ipc.Bus, num, thread int) {
	t.Helper()
	isNoEnd(t, b, num, thread)
	isNoBell(t, b, num, thread)
	before := picture(b)
	if l, e := b.Line(num); len(l) != 0 || e != api.ErrName {
		t.Errorf("Line(%d): %v, %d", num, l, e)
	}
	if l, e := b.Close(num); len(l) != 0 || e != api.ErrName {
		t.Errorf("Close(%d): %v, %d", num, l, e)
	}
	is(t, fmt.Sprint("Close ", num, " left"), picture(b), before)
}

func TestNew(t *testing.T) {
	b := ipc.New()
	is(t, "New", picture(b), "")
	for _, n := range watched() {
		isGone(t, b, n, 1)
		isNowhere(t, b, n)
		is(t, "Cancel", b.Cancel(n), api.ErrState)
	}
}

func TestOpen(t *testing.T) {
	b := ipc.New()
	for i, n := range []int{0, 1, 2, 3, math.MaxInt, math.MaxInt - 1, 1 << 32, 1<<32 + 1} {
		bell := i%2 == 0
		is(t, "Open", b.Open(n, bell), api.OK)
		isLine(t, b, n)
		if bell {
			isWord(t, b, n, 0)
			isNoEnd(t, b, n, 9)
			is(t, "Hear", b.Hear(n, 9, true), waits)
		} else {
			isNoBell(t, b, n, 9)
			is(t, "Get", b.Get(n, 9, true), waits)
		}
		isLine(t, b, n, 9)
		is(t, "Cancel", b.Cancel(9), api.OK)
	}
}

func TestOpenWrong(t *testing.T) {
	b := made(t)
	is(t, "Send", b.Send(5, 1, api.Sending, letter(1)), waits)
	is(t, "Ring", b.Ring(6, 3), nothing)
	is(t, "Hear", b.Hear(8, 2, true), waits)
	before := picture(b)
	for _, bell := range []bool{false, true} {
		for _, n := range []int{-1, -2, -5, math.MinInt, math.MinInt + 5} {
			is(t, fmt.Sprint("Open ", n), b.Open(n, bell), api.ErrArg)
			isGone(t, b, n, 3)
		}
		for n := 5; n <= 8; n++ {
			is(t, fmt.Sprint("Open ", n), b.Open(n, bell), api.ErrTwice)
		}
	}
	is(t, "Open left", picture(b), before)
	is(t, "Get", b.Get(5, 3, false), api.Outcome{Peer: 1, Msg: letter(1)})
}

// TestOpenAgain: a place that was closed may come again, as another kind, and has nothing of what it had.
func TestOpenAgain(t *testing.T) {
	b := made(t)
	b.Ring(6, 7)
	b.Get(5, 1, true)
	for _, n := range []int{5, 6} {
		b.Close(n)
		isGone(t, b, n, 2)
	}
	is(t, "Open", b.Open(5, true), api.OK)
	is(t, "Open", b.Open(6, false), api.OK)
	isNoEnd(t, b, 5, 2)
	isNoBell(t, b, 6, 2)
	is(t, "Close", len(closed(t, b, 5)), 0)
	is(t, "Close", len(closed(t, b, 6)), 0)
	is(t, "Open", b.Open(5, false), api.OK)
	is(t, "Open", b.Open(6, true), api.OK)
	isLine(t, b, 5)
	isWord(t, b, 6, 0)
	is(t, "Send", b.Send(5, 2, api.Ready, letter(1)), failed(api.ErrWait))
	is(t, "Get", b.Get(5, 1, true), waits)
}

func closed(t *testing.T, b *ipc.Bus, num int) []int {
	t.Helper()
	l, e := b.Close(num)
	if e != api.OK {
		t.Errorf("Close(%d): %d", num, e)
	}
	return l
}

func TestCancel(t *testing.T) {
	b := made(t)
	for _, n := range []int{4, 2, 9, 3} {
		is(t, "Get", b.Get(5, n, true), waits)
	}
	is(t, "Cancel", b.Cancel(9), api.OK)
	isLine(t, b, 5, 4, 2, 3)
	is(t, "Cancel", b.Cancel(4), api.OK)
	isLine(t, b, 5, 2, 3)
	is(t, "Cancel", b.Cancel(3), api.OK)
	isLine(t, b, 5, 2)
	isNowhere(t, b, 4, 9, 3)
	isAt(t, b, 2, 5, api.Getting)
	before := picture(b)
	for _, n := range []int{4, 9, 3, 5, 6, 0, -1, math.MaxInt, math.MinInt} {
		is(t, fmt.Sprint("Cancel ", n), b.Cancel(n), api.ErrState)
	}
	is(t, "Cancel left", picture(b), before)
	is(t, "Get", b.Get(5, 4, true), waits)
	isLine(t, b, 5, 2, 4)
	is(t, "Send", b.Send(5, 1, api.Sending, letter(1)), api.Outcome{Peer: 2, Msg: letter(1)})
	is(t, "Cancel", b.Cancel(4), api.OK)
	is(t, "Send", b.Send(5, 1, api.Sending, letter(2)), waits)
	isLine(t, b, 5, 1)
}

// TestCancelEach: however and wherever a thread waits, it waits no more, and its message is not heard of.
func TestCancelEach(t *testing.T) {
	b := made(t)
	for _, how := range []int{api.Sending, api.Calling, api.Faulting} {
		is(t, "Send", b.Send(7, 1, how, letter(1)), waits)
		isAt(t, b, 1, 7, how)
		is(t, "Cancel", b.Cancel(1), api.OK)
		isNowhere(t, b, 1)
		is(t, "Get", b.Get(7, 2, false), failed(api.ErrWait))
	}
	is(t, "Hear", b.Hear(8, 1, true), waits)
	is(t, "Cancel", b.Cancel(1), api.OK)
	isLine(t, b, 8)
	is(t, "Ring", b.Ring(8, 4), nothing)
	isWord(t, b, 8, 4)
}

func TestClose(t *testing.T) {
	b := made(t)
	for i, n := range []int{3, 1, 2} {
		is(t, "Send", b.Send(5, n, []int{api.Sending, api.Calling, api.Faulting}[i], letter(uint32(n))), waits)
	}
	is(t, "Get", b.Get(7, 4, true), waits)
	for _, n := range []int{12, 11, 13} {
		is(t, "Hear", b.Hear(6, n, true), waits)
	}
	is(t, "Ring", b.Ring(8, 9), nothing)
	if l := closed(t, b, 5); !slices.Equal(l, []int{3, 1, 2}) {
		t.Errorf("Close: %v", l)
	}
	isGone(t, b, 5, 4) // also for a thread that waits elsewhere
	isNowhere(t, b, 1, 2, 3)
	isLine(t, b, 7, 4)
	isLine(t, b, 6, 12, 11, 13)
	if l := closed(t, b, 6); !slices.Equal(l, []int{12, 11, 13}) {
		t.Errorf("Close: %v", l)
	}
	isNowhere(t, b, 11, 12, 13)
	if l := closed(t, b, 8); len(l) != 0 {
		t.Errorf("Close: %v", l)
	}
	is(t, "Cancel", b.Cancel(3), api.ErrState)
	isAt(t, b, 4, 7, api.Getting)
	is(t, "Send", b.Send(7, 3, api.Ready, letter(3)), api.Outcome{Peer: 4, Msg: letter(3)})
	is(t, "left", picture(b), picture(only(7)))
}

// only is a bus with these ends, at which nobody waits.
func only(ends ...int) *ipc.Bus {
	b := ipc.New()
	for _, n := range ends {
		b.Open(n, false)
	}
	return b
}

// TestThreadsOfAnyNumber: the chapter refuses no thread by its number; and one of a place's number has nothing to do with that.
func TestThreadsOfAnyNumber(t *testing.T) {
	b := made(t)
	threads := []int{5, 6, 0, -1, math.MaxInt, math.MinInt, 1 << 32}
	for i, n := range threads {
		is(t, "Send", b.Send(5, n, api.Sending, letter(uint32(i))), waits)
		isAt(t, b, n, 5, api.Sending)
	}
	isLine(t, b, 5, threads...)
	for i, n := range threads {
		is(t, "Get", b.Get(5, 9, true), api.Outcome{Peer: n, Msg: letter(uint32(i))})
		isNowhere(t, b, n)
	}
}

// TestListsAreNew: what is done to a list is not seen, nor to its spare room, and a list stays as it was told.
func TestListsAreNew(t *testing.T) {
	spoil := func(l []int) {
		for i := range l[:cap(l)] {
			l[:cap(l)][i] = 99
		}
	}
	b := made(t)
	for n := range 5 {
		b.Get(5, n, true)
		b.Hear(6, 10+n, true)
	}
	kept, _ := b.Line(5)
	for _, num := range []int{5, 6} {
		l, _ := b.Line(num)
		spoil(l)
		spoil(append(l[:0], 1))
	}
	isLine(t, b, 5, 0, 1, 2, 3, 4)
	isLine(t, b, 6, 10, 11, 12, 13, 14)
	b.Cancel(1)
	b.Send(5, 9, api.Ready, letter(0))
	b.Get(5, 7, true)
	if !slices.Equal(kept, []int{0, 1, 2, 3, 4}) {
		t.Errorf("a line that was told is %v", kept)
	}
	l := closed(t, b, 5)
	b.Open(5, false)
	for n := range 6 {
		b.Get(5, 20+n, true)
	}
	if !slices.Equal(l, []int{2, 3, 4, 7}) {
		t.Errorf("what Close told is %v", l)
	}
	spoil(l)
	isLine(t, b, 5, 20, 21, 22, 23, 24, 25)
}

// TestApart: what is done at one bus is not seen at another.
func TestApart(t *testing.T) {
	a, b := made(t), made(t)
	before := picture(b)
	a.Send(5, 1, api.Calling, letter(1))
	a.Hear(6, 2, true)
	a.Ring(8, 3)
	a.Open(9, true)
	a.Close(7)
	is(t, "the other", picture(b), before)
	is(t, "Get", b.Get(5, 1, true), waits)
	is(t, "Hear", b.Hear(8, 2, true), waits)
	is(t, "Get", a.Get(5, 3, true), api.Outcome{Peer: 1, Msg: letter(1), Asks: true})
}
