package ipc_test

import (
	"fmt"
	"math"
	"math/rand"
	"slices"
	"testing"

	"vault/api"
	"vault/ipc"
)

// model tells the chapter once more: there are no lines, but one heap of cards of all who wait, in the order in which they came; a bell has rung with a list of badges.
type model struct {
	places map[int]string // "end", "bell"
	rung   map[int][]uint32
	cards  []card
}

type card struct {
	place, thread, how int
	msg                api.Message
}

func (m *model) word(num int) (w uint32) {
	for _, badge := range m.rung[num] {
		w |= badge
	}
	return w
}

func (m *model) card(thread int) int {
	return slices.IndexFunc(m.cards, func(c card) bool { return c.thread == thread })
}

func (m *model) line(num int) (l []int) {
	for _, c := range m.cards {
		if c.place == num {
			l = append(l, c.thread)
		}
	}
	return l
}

// take takes the card of the first one of a line, if it waits in one of these ways.
func (m *model) take(num int, ways ...int) (card, bool) {
	l := m.line(num)
	if len(l) == 0 {
		return card{}, false
	}
	i := m.card(l[0])
	c := m.cards[i]
	if !slices.Contains(ways, c.how) {
		return card{}, false
	}
	m.cards = slices.Delete(m.cards, i, i+1)
	return c, true
}

func (m *model) lay(c card, may bool) api.Outcome {
	if !may {
		return failed(api.ErrWait)
	}
	m.cards = append(m.cards, c)
	return waits
}

// comes tells the errors of one that comes to a place of a kind.
func (m *model) comes(kind string, num, thread int) api.Errno {
	switch {
	case m.places[num] != kind:
		return api.ErrName
	case m.card(thread) >= 0:
		return api.ErrState
	}
	return api.OK
}

func (m *model) open(num int, bell bool) api.Outcome {
	switch {
	case num < 0:
		return failed(api.ErrArg)
	case m.places[num] != "":
		return failed(api.ErrTwice)
	case bell:
		m.places[num] = "bell"
	default:
		m.places[num] = "end"
	}
	return nothing
}

func (m *model) send(num, thread, how int, msg api.Message) api.Outcome {
	if !slices.Contains([]int{api.Ready, api.Sending, api.Calling, api.Faulting}, how) {
		return failed(api.ErrArg)
	}
	if e := m.comes("end", num, thread); e != api.OK {
		return failed(e)
	}
	c, ok := m.take(num, api.Getting)
	if !ok {
		return m.lay(card{num, thread, how, msg}, how != api.Ready)
	}
	return told(c.thread, how, msg)
}

func (m *model) get(num, thread int, may bool) api.Outcome {
	if e := m.comes("end", num, thread); e != api.OK {
		return failed(e)
	}
	c, ok := m.take(num, api.Sending, api.Calling, api.Faulting)
	if !ok {
		return m.lay(card{place: num, thread: thread, how: api.Getting}, may)
	}
	return told(c.thread, c.how, c.msg)
}

// told is of two that meet.
func told(peer, how int, msg api.Message) api.Outcome {
	o := api.Outcome{Peer: peer, Msg: msg}
	switch how {
	case api.Faulting:
		o.Fault = true
		fallthrough
	case api.Calling:
		o.Asks = true
	}
	return o
}

func (m *model) ring(num int, badge uint32) api.Outcome {
	if m.places[num] != "bell" {
		return failed(api.ErrName)
	}
	if c, ok := m.take(num, api.Hearing); ok {
		return bits(c.thread, badge)
	}
	m.rung[num] = append(m.rung[num], badge)
	return nothing
}

func (m *model) hear(num, thread int, may bool) api.Outcome {
	if e := m.comes("bell", num, thread); e != api.OK {
		return failed(e)
	}
	if w := m.word(num); w != 0 {
		delete(m.rung, num)
		return bits(-1, w)
	}
	return m.lay(card{place: num, thread: thread, how: api.Hearing}, may)
}

func (m *model) cancel(thread int) api.Outcome {
	i := m.card(thread)
	if i < 0 {
		return failed(api.ErrState)
	}
	m.cards = slices.Delete(m.cards, i, i+1)
	return nothing
}

func (m *model) close(num int) ([]int, api.Errno) {
	if m.places[num] == "" {
		return nil, api.ErrName
	}
	l := m.line(num)
	delete(m.places, num)
	delete(m.rung, num)
	m.cards = slices.DeleteFunc(m.cards, func(c card) bool { return c.place == num })
	return l, api.OK
}

// odd is now and then a number that hardly fits.
func odd(r *rand.Rand, number int) int {
	if r.Intn(40) == 0 {
		return []int{-1, -2, 9, 10, math.MaxInt, math.MinInt, number + 1, number - 1}[r.Intn(8)]
	}
	return number
}

// step makes one call of both, and tells what each answered.
func (m *model) step(b *ipc.Bus, r *rand.Rand) (call string, got, want any) {
	num, thread, may := odd(r, r.Intn(5)), odd(r, r.Intn(16)), r.Intn(4) > 0
	badge := uint32(1<<r.Intn(32)) * uint32(r.Intn(4))
	how := odd(r, []int{api.Ready, api.Sending, api.Calling, api.Faulting}[r.Intn(4)])
	msg := api.Message{Label: r.Uint32(), Words: [4]uint32{r.Uint32(), r.Uint32(), r.Uint32(), r.Uint32()}, Badge: r.Uint32()}
	switch n := r.Intn(100); {
	case n < 5:
		return "Open", failed(b.Open(num, may)), m.open(num, may)
	case n < 35:
		return "Send", b.Send(num, thread, how, msg), m.send(num, thread, how, msg)
	case n < 60:
		return "Get", b.Get(num, thread, may), m.get(num, thread, may)
	case n < 75:
		return "Ring", b.Ring(num, badge), m.ring(num, badge)
	case n < 92:
		return "Hear", b.Hear(num, thread, may), m.hear(num, thread, may)
	case n < 98:
		return "Cancel", failed(b.Cancel(thread)), m.cancel(thread)
	}
	l, e := b.Close(num)
	wl, we := m.close(num)
	return "Close", fmt.Sprint(l, e), fmt.Sprint(wl, we)
}

// differs tells in what the two stand otherwise; "": in nothing.
func (m *model) differs(b *ipc.Bus) string {
	for _, n := range watched() {
		l, e := b.Line(n)
		if there := m.places[n] != ""; there != (e == api.OK) || !there && e != api.ErrName || !slices.Equal(l, m.line(n)) {
			return fmt.Sprintf("Line(%d): %v, %d, wanted %v", n, l, e, m.line(n))
		}
		w, e := b.Word(n)
		if there := m.places[n] == "bell"; there != (e == api.OK) || !there && e != api.ErrName || w != m.word(n) {
			return fmt.Sprintf("Word(%d): %d, %d, wanted %d", n, w, e, m.word(n))
		}
		at, how := b.Where(n)
		want := card{place: -1}
		if i := m.card(n); i >= 0 {
			want = m.cards[i]
		}
		if at != want.place || how != want.how {
			return fmt.Sprintf("Where(%d): %d, %d, wanted %d, %d", n, at, how, want.place, want.how)
		}
	}
	return ""
}

// kindOf is what kind of answer it is.
func kindOf(call string, answer any) string {
	o, ok := answer.(api.Outcome)
	if !ok {
		return call
	}
	return fmt.Sprint(call, " ", o.Err, o.Peer != api.None, o.Waits, o.Asks, o.Fault)
}

func TestModel(t *testing.T) {
	r := rand.New(rand.NewSource(10))
	met := map[string]int{}
	for range 30 {
		b, m := ipc.New(), &model{places: map[int]string{}, rung: map[int][]uint32{}}
		for range 2000 {
			call, got, want := m.step(b, r)
			met[kindOf(call, want)]++
			if got != want {
				t.Fatalf("%s: %v, wanted %v", call, got, want)
			}
			if d := m.differs(b); d != "" {
				t.Fatalf("behind %s: %s", call, d)
			}
		}
	}
	for _, want := range []struct {
		call string
		all  []api.Outcome
	}{
		{"Open", []api.Outcome{nothing, failed(api.ErrArg), failed(api.ErrTwice)}},
		{"Send", []api.Outcome{waits, failed(api.ErrArg), failed(api.ErrName), failed(api.ErrState), failed(api.ErrWait), {Peer: 1}, {Peer: 1, Asks: true}, {Peer: 1, Asks: true, Fault: true}}},
		{"Get", []api.Outcome{waits, failed(api.ErrName), failed(api.ErrState), failed(api.ErrWait), {Peer: 1}, {Peer: 1, Asks: true}, {Peer: 1, Asks: true, Fault: true}}},
		{"Ring", []api.Outcome{nothing, failed(api.ErrName), {Peer: 1}}},
		{"Hear", []api.Outcome{waits, nothing, failed(api.ErrName), failed(api.ErrState), failed(api.ErrWait)}},
		{"Cancel", []api.Outcome{nothing, failed(api.ErrState)}},
	} {
		for _, o := range want.all {
			if n := met[kindOf(want.call, o)]; n < 20 {
				t.Errorf("%s answers as %v only %d times", want.call, o, n)
			}
		}
	}
}
