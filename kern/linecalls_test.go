package kern_test

import (
	"fmt"
	"strings"
	"testing"

	"vault/api"
	"vault/kern"
)

// isLine: how an interrupt stands.
func isLine(t *testing.T, k *kern.Kernel, n, bell int, badge uint32, masked, pending bool) {
	t.Helper()
	a, b, c, d, e := k.Irq(n)
	same(t, fmt.Sprintf("Irq(%d)", n), []any{a, b, c, d, e}, []any{bell, badge, masked, pending, api.OK})
}

func word(t *testing.T, k *kern.Kernel, bell int, want uint32) {
	t.Helper()
	w, e := k.Word(bell)
	same(t, "Word", []any{w, e}, []any{want, api.OK})
}

func TestBind(t *testing.T) {
	k := play(t, "",
		does(api.CallBind, api.ErrSlot, inIrq, 64),
		does(api.CallBind, api.ErrEmpty, inIrq, free),
		does(api.CallBind, api.ErrKind, inIrq, inEnd),
		does(api.CallCopy, api.OK, 20, inBell, 5),
		does(api.CallBind, api.ErrRight, inIrq, 20),
		does(api.CallMint, api.OK, 21, inBell, 2, 64),
		does(api.CallBind, api.OK, inIrq, 21),
		does(api.CallBind, api.ErrState, inIrq, 21),
		does(api.CallBind, api.ErrKind, inIrq, inEnd))
	isLine(t, k, ofIrq, ofBell, 64, false, false)
	isLine(t, k, 2, api.None, 0, false, false)
	k.Raise(ofIrq)
	word(t, k, ofBell, 64)
	isLine(t, k, ofIrq, ofBell, 64, true, false)
	// one that begins with a bell has one
	play(t, "bind i b 1\n", does(api.CallBind, api.ErrState, inIrq, inBell))
}

func TestAck(t *testing.T) {
	ack := does(api.CallAck, api.OK, inIrq)
	play(t, "", does(api.CallAck, api.ErrState, inIrq))
	k := boot(t, stage("bind i b 4\n", speak(ack)+speak(ack)+speak(ack)+speak(ack)))
	do(t, k, "Ack of one that has not come", ack)
	isLine(t, k, ofIrq, ofBell, 4, false, false)
	k.Raise(ofIrq)
	isLine(t, k, ofIrq, ofBell, 4, true, false)
	word(t, k, ofBell, 4)
	do(t, k, "Ack", ack)
	isLine(t, k, ofIrq, ofBell, 4, false, false)
	word(t, k, ofBell, 4)
	k.Raise(ofIrq)
	k.Raise(ofIrq)
	k.Raise(ofIrq)
	isLine(t, k, ofIrq, ofBell, 4, true, true)
	do(t, k, "Ack of one that has come meanwhile", ack)
	isLine(t, k, ofIrq, ofBell, 4, true, false)
	do(t, k, "Ack", ack)
	isLine(t, k, ofIrq, ofBell, 4, false, false)
}

// TestAckRings: who hears the bell hears what has come meanwhile.
func TestAckRings(t *testing.T) {
	hear := say(api.CallHear, 1)
	k := boot(t, system("cap x1 6 i w\nbind i b 64\n"+start(1, 0), hear+hear, say(api.CallAck, 6)+say(api.CallAck, 6)))
	ticks(k, lines(1))
	stand(t, k, 10, api.Hearing, 61, api.None, api.None)
	k.Raise(3)
	k.Raise(3)
	stand(t, k, 10, api.Ready, api.None, api.None, api.None)
	ticks(k, lines(1))
	stand(t, k, 10, api.Hearing, 61, api.None, api.None)
	regs(t, k, 10, 1, 0, 0, 0, 0, 0, 64)
	same(t, "Tick", ticks(k, lines(1)), made(20, api.CallAck, api.OK))
	stand(t, k, 10, api.Ready, api.None, api.None, api.None)
	regs(t, k, 10, 0, 0, 0, 0, 0, 0, 64, 0)
	isLine(t, k, 3, 61, 64, true, false)
	rest(t, k)
	isLine(t, k, 3, 61, 64, false, false)
}

func TestPut(t *testing.T) {
	var steps []step
	for _, n := range []int{65, 256 + 66, 255, 128, 0, none, 1<<31 | 67} {
		steps = append(steps, does(api.CallPut, api.OK, inPort, n))
	}
	k := play(t, "", steps...)
	in, out, _ := k.Waiting(ofPort)
	same(t, "Waiting", []string{in, out}, []string{"", "AB\xff\x80\x00\xffC"})
	s, e := k.Drain(ofPort)
	same(t, "Drain", []any{s, e}, []any{"AB\xff\x80\x00\xffC", api.OK})
	s, e = k.Drain(ofPort)
	same(t, "Drain once more", []any{s, e}, []any{"", api.OK})
	s, _ = k.Drain(ofPort + 1)
	same(t, "Drain of another one", s, "")
	regs(t, k, player, 0, 1<<31|67)
}

// TestPutIsFull: 64 bytes at most wait; drained, there is room.
func TestPutIsFull(t *testing.T) {
	code := "li x20, 0\na: li x10, 10\nadd x11, x20, x0\nli x17, 28\necall\naddi x20, x20, 1\nli x21, 64\nbne x20, x21, a\n" + speak(does(api.CallPut, 0, inPort, 99)) + "add x22, x10, x0\n" + speak(does(api.CallPut, 0, inPort, 98))
	k := boot(t, stage("", code))
	calls := 0
	for range 1000 {
		did := k.Tick()
		if did.Event.Cause != api.Ecall {
			continue
		}
		calls++
		if calls <= 64 {
			same(t, "Put", did, made(player, api.CallPut, api.OK))
			_, out, _ := k.Waiting(ofPort)
			same(t, "how many wait", len(out), calls)
		} else if calls == 65 {
			same(t, "Put", did, made(player, api.CallPut, api.ErrRoom))
			s, _ := k.Drain(ofPort)
			same(t, "Drain", []any{len(s), s[:3], s[61:]}, []any{64, "\x00\x01\x02", "=>?"})
		} else {
			same(t, "Put", did, made(player, api.CallPut, api.OK))
			break
		}
	}
	_, out, _ := k.Waiting(ofPort)
	same(t, "Waiting", out, "b")
}

func TestTake(t *testing.T) {
	take := does(api.CallTake, api.OK, inPort, 5)
	k := boot(t, stage("", strings.Repeat(speak(take), 6)))
	do(t, k, "Take of nothing", does(api.CallTake, api.ErrEmpty, inPort))
	regs(t, k, player, uint32(api.ErrEmpty), 5)
	k.Feed(ofPort, "A\xff\x00")
	k.Feed(ofPort+1, "z")
	for i, want := range []uint32{65, 255, 0} {
		do(t, k, "Take", take)
		regs(t, k, player, 0, want, 0)
		in, out, _ := k.Waiting(ofPort)
		same(t, "Waiting", []string{in, out}, []string{"A\xff\x00"[i+1:], ""})
	}
	do(t, k, "Take of nothing", does(api.CallTake, api.ErrEmpty, inPort))
	// what was taken has made room
	fed, _ := k.Feed(ofPort, strings.Repeat("x", 70))
	same(t, "Feed", fed, 64)
	do(t, k, "Take", take)
	fed, _ = k.Feed(ofPort, "yz")
	same(t, "Feed", fed, 1)
	in, _, _ := k.Waiting(ofPort)
	same(t, "Waiting", in, strings.Repeat("x", 63)+"y")
}
