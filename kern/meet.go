package kern

import (
	"vault/api"
)

// The registers in which calls have their words, and answers theirs.
const (
	errReg   = 10
	firstReg = 10 // a call's first word: most often an address
	labelReg = 11
	wordsReg = 12
	badgeReg = 16
	fromReg  = 16 // the address of what a sender gives
	callReg  = 17
	givenReg = 17
	intoReg  = 18 // the address of where a getter takes it
)

// noAddress in a register says that there is none.
const noAddress = 4294967295

// arg is a call's word: 0 is the first one.
func (t *thread) arg(n int) uint32 {
	return t.context.Regs[firstReg+n]
}

// rights are those that a call's word tells of: its lowest three bits.
func (t *thread) rights(n int) int {
	return int(t.arg(n) & allRights)
}

// message is what a thread's registers say, with a badge.
func (t *thread) message(badge uint32) api.Message {
	m := api.Message{Label: t.context.Regs[labelReg], Badge: badge}
	copy(m.Words[:], t.context.Regs[wordsReg:])
	return m
}

// answer: a message comes into a thread's registers, and it goes on.
func (k *Kernel) answer(t *thread, m api.Message) {
	regs := &t.context.Regs
	regs[errReg] = uint32(api.OK)
	regs[labelReg] = m.Label
	copy(regs[wordsReg:], m.Words[:])
	regs[badgeReg] = m.Badge
	regs[givenReg] = 0
	k.set(t, api.Ready)
}

// sendAs sends a message of a thread to an end, and lets it meet who gets there.
func (k *Kernel) sendAs(t *thread, end, how int, m api.Message) api.Errno {
	o := k.bus.Send(end, t.num, how, m)
	if o.Waits {
		k.set(t, how)
	} else if o.Err == api.OK {
		k.meet(t, k.threads[o.Peer], o)
	}
	return o.Err
}

// meet: the getter has its answer ahead of all, since what is given is told in it.
func (k *Kernel) meet(sender, getter *thread, o api.Outcome) {
	k.answer(getter, o.Msg)
	if sender.granted && !o.Fault && k.give(sender, getter) {
		getter.context.Regs[givenReg] = 1
	}
	switch {
	case o.Asks:
		k.owe(getter, sender)
		k.set(sender, asking(o.Fault))
	case sender.state != api.Ready:
		sender.context.Regs[errReg] = uint32(api.OK)
		k.set(sender, api.Ready)
	}
}

// asking is how a thread stands that waits for an answer.
func asking(fault bool) int {
	if fault {
		return api.Faulted
	}
	return api.Asking
}

// owe: a thread owes one answer at most; who waited for one till then is forgotten.
func (k *Kernel) owe(getter, sender *thread) {
	if getter.caller != nil {
		getter.caller.waits = nil
	}
	getter.caller = sender
	sender.waits = getter
}

// give gives what the sender names to the getter, and tells whether it did.
func (k *Kernel) give(sender, getter *thread) bool {
	what, into := sender.context.Regs[fromReg], getter.context.Regs[intoReg]
	if what == noAddress || into == noAddress {
		return false
	}
	from, c, e := k.named(sender, what)
	if e != api.OK {
		return false
	}
	to, e := k.address(getter, into)
	if e != api.OK {
		return false
	}
	return k.boxes.Put(to, derived(c, allRights), from) == api.OK
}
