package ipc_test

import (
	"fmt"
	"math"
	"testing"

	"vault/api"
)

// sendings are the ways to send, with what is told of them where two meet.
func sendings() []struct {
	how         int
	asks, fault bool
} {
	return []struct {
		how         int
		asks, fault bool
	}{{api.Ready, false, false}, {api.Sending, false, false}, {api.Calling, true, false}, {api.Faulting, true, true}}
}

func TestSendWaits(t *testing.T) {
	for _, x := range sendings()[1:] {
		for _, may := range []bool{false, true} {
			b := made(t)
			is(t, "Send", b.Send(5, 1, x.how, letter(7)), waits)
			isAt(t, b, 1, 5, x.how)
			isLine(t, b, 5, 1)
			is(t, "Get", b.Get(5, 2, may), api.Outcome{Peer: 1, Msg: letter(7), Asks: x.asks, Fault: x.fault})
			isNowhere(t, b, 1, 2)
			isLine(t, b, 5)
			refused(t, b, "Get", api.ErrWait, func() api.Outcome { return b.Get(5, 2, false) })
		}
	}
}

func TestGetWaits(t *testing.T) {
	for _, x := range sendings() {
		b := made(t)
		is(t, "Get", b.Get(5, 2, true), waits)
		isAt(t, b, 2, 5, api.Getting)
		isLine(t, b, 5, 2)
		is(t, "Send", b.Send(5, 1, x.how, letter(7)), api.Outcome{Peer: 2, Msg: letter(7), Asks: x.asks, Fault: x.fault})
		isNowhere(t, b, 1, 2)
		isLine(t, b, 5)
	}
}

// TestWaitsNot: who may not wait is refused where nobody is to be met, also behind others of its own kind.
func TestWaitsNot(t *testing.T) {
	b := made(t)
	for range 2 {
		refused(t, b, "Send", api.ErrWait, func() api.Outcome { return b.Send(5, 1, api.Ready, letter(1)) })
		refused(t, b, "Get", api.ErrWait, func() api.Outcome { return b.Get(5, 1, false) })
	}
	is(t, "Get", b.Get(5, 2, true), waits)
	refused(t, b, "Get", api.ErrWait, func() api.Outcome { return b.Get(5, 1, false) })
	is(t, "Send", b.Send(7, 3, api.Sending, letter(3)), waits)
	refused(t, b, "Send", api.ErrWait, func() api.Outcome { return b.Send(7, 1, api.Ready, letter(1)) })
	isLine(t, b, 5, 2)
	isLine(t, b, 7, 3)
	is(t, "Get", b.Get(7, 1, false), api.Outcome{Peer: 3, Msg: letter(3)})
}

// TestSenders: they are met as they came, each with its own message and way.
func TestSenders(t *testing.T) {
	b := made(t)
	threads := []int{9, 1, 4, 3, 2, 8}
	for i, n := range threads {
		is(t, "Send", b.Send(5, n, sendings()[1+i%3].how, letter(uint32(n))), waits)
	}
	is(t, "Send", b.Send(7, 10, api.Sending, letter(10)), waits)
	isLine(t, b, 5, threads...)
	for i, n := range threads {
		x := sendings()[1+i%3]
		is(t, "Get", b.Get(5, 20, i%2 == 0), api.Outcome{Peer: n, Msg: letter(uint32(n)), Asks: x.asks, Fault: x.fault})
		isLine(t, b, 5, threads[i+1:]...)
		isNowhere(t, b, n, 20)
	}
	isLine(t, b, 7, 10)
	is(t, "Get", b.Get(5, 20, true), waits)
}

func TestGetters(t *testing.T) {
	b := made(t)
	threads := []int{9, 1, 4, 3, 2, 8}
	for _, n := range threads {
		is(t, "Get", b.Get(5, n, true), waits)
	}
	is(t, "Get", b.Get(7, 10, true), waits)
	isLine(t, b, 5, threads...)
	for i, n := range threads {
		x := sendings()[i%4]
		is(t, "Send", b.Send(5, 20, x.how, letter(uint32(i))), api.Outcome{Peer: n, Msg: letter(uint32(i)), Asks: x.asks, Fault: x.fault})
		isLine(t, b, 5, threads[i+1:]...)
		isNowhere(t, b, n, 20)
	}
	isLine(t, b, 7, 10)
	is(t, "Send", b.Send(5, 20, api.Sending, letter(1)), waits)
}

// TestMessages: a message goes over as it is, to the bit.
func TestMessages(t *testing.T) {
	const all = math.MaxUint32
	for _, m := range []api.Message{{}, {Label: all}, {Badge: all}, {Words: [4]uint32{all, 0, all, 0}}, {Words: [4]uint32{0, all, 0, 1 << 31}}, {Label: all, Words: [4]uint32{all, all, all, all}, Badge: all}} {
		b := made(t)
		b.Send(5, 1, api.Sending, m)
		is(t, "Get", b.Get(5, 2, true), api.Outcome{Peer: 1, Msg: m})
		b.Get(5, 2, true)
		is(t, "Send", b.Send(5, 1, api.Sending, m), api.Outcome{Peer: 2, Msg: m})
	}
}

// TestSendHow: a way that is none is told ahead of all else.
func TestSendHow(t *testing.T) {
	b := made(t)
	b.Get(5, 1, true)
	b.Send(7, 2, api.Sending, letter(2))
	for _, how := range []int{api.Idle, api.Getting, api.Asking, api.Hearing, api.Faulted, -1, 9, 10, math.MaxInt, math.MinInt, 1<<32 + api.Ready, 1<<32 + api.Sending} {
		for _, num := range []int{5, 6, 7, 9, -1} {
			for _, thread := range []int{1, 2, 3} {
				refused(t, b, fmt.Sprint("Send to ", num, " by ", thread, " as ", how), api.ErrArg, func() api.Outcome { return b.Send(num, thread, how, letter(1)) })
			}
		}
	}
}

// TestEndNames: no end is told ahead of how the thread stands.
func TestEndNames(t *testing.T) {
	b := made(t)
	b.Get(5, 1, true)
	b.Send(7, 2, api.Calling, letter(2))
	b.Hear(8, 3, true)
	for thread := 1; thread <= 4; thread++ {
		for _, num := range []int{6, 8, 4, 9, 0, -1, math.MaxInt, math.MinInt, 1<<32 + 5} {
			isNoEnd(t, b, num, thread)
		}
	}
}

// TestWaitsAlready: one that waits comes to no end, its own among them, not even to meet somebody.
func TestWaitsAlready(t *testing.T) {
	b := made(t)
	is(t, "Open", b.Open(9, false), api.OK)
	b.Get(5, 1, true)
	b.Send(7, 2, api.Faulting, letter(2))
	b.Hear(6, 3, true)
	for thread := 1; thread <= 3; thread++ {
		for _, num := range []int{5, 7, 9} {
			for _, x := range sendings() {
				refused(t, b, fmt.Sprint("Send to ", num, " by ", thread), api.ErrState, func() api.Outcome { return b.Send(num, thread, x.how, letter(9)) })
			}
			for _, may := range []bool{false, true} {
				refused(t, b, fmt.Sprint("Get at ", num, " by ", thread), api.ErrState, func() api.Outcome { return b.Get(num, thread, may) })
			}
		}
	}
	is(t, "Get", b.Get(7, 4, false), api.Outcome{Peer: 2, Msg: letter(2), Asks: true, Fault: true})
	is(t, "Get", b.Get(7, 2, true), waits) // it waited, and does no more
}

// TestTurnAround: when the last one of a line has gone, who comes next may wait the other way.
func TestTurnAround(t *testing.T) {
	b := made(t)
	for range 3 {
		is(t, "Send", b.Send(5, 1, api.Sending, letter(1)), waits)
		is(t, "Cancel", b.Cancel(1), api.OK)
		is(t, "Get", b.Get(5, 2, true), waits)
		is(t, "Get", b.Get(5, 1, true), waits)
		is(t, "Send", b.Send(5, 3, api.Calling, letter(3)), api.Outcome{Peer: 2, Msg: letter(3), Asks: true})
		is(t, "Send", b.Send(5, 2, api.Ready, letter(2)), api.Outcome{Peer: 1, Msg: letter(2)})
	}
	isLine(t, b, 5)
}
