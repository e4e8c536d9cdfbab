package ipc

import (
	"vault/api"
	"vault/queue"
)

// place is an end or a bell. All who wait at an end send, or all get: who would meet the first one does not wait.
type place struct {
	bell bool
	word uint32 // of a bell; 0 while somebody waits there
	line queue.Queue[*waiter]
}

// waiter is a thread that waits: at which place, how, and with what, if it sends.
type waiter struct {
	thread, at, how int
	msg             api.Message
}

// find is an end, or a bell, as the call wants it; nil: there is no such one.
func (b *Bus) find(id int, bell bool) *place {
	p := b.places[id]
	if p == nil || p.bell != bell {
		return nil
	}
	return p
}

// come is the place to which a thread may come: one that waits already comes nowhere.
func (b *Bus) come(id, thread int, bell bool) (*place, api.Errno) {
	p := b.find(id, bell)
	if p == nil {
		return nil, api.ErrName
	}
	if b.waiters[thread] != nil {
		return nil, api.ErrState
	}
	return p, api.OK
}

// wait is what comes of a call that meets nobody.
func (b *Bus) wait(w *waiter, may bool) api.Outcome {
	if !may {
		return refused(api.ErrWait)
	}
	b.waiters[w.thread] = w
	b.places[w.at].line.Join(w)
	return api.Outcome{Peer: api.None, Waits: true}
}

func (b *Bus) leave(w *waiter) {
	delete(b.waiters, w.thread)
	b.places[w.at].line.Leave(w)
}

func sends(how int) bool {
	return how == api.Sending || asks(how)
}

func asks(how int) bool {
	return how == api.Calling || how == api.Faulting
}

func refused(e api.Errno) api.Outcome {
	return api.Outcome{Err: e, Peer: api.None}
}

// met is what comes of it when a message goes over: how is the sender's.
func met(peer, how int, m api.Message) api.Outcome {
	return api.Outcome{Peer: peer, Msg: m, Asks: asks(how), Fault: how == api.Faulting}
}

func heard(peer int, badge uint32) api.Outcome {
	return api.Outcome{Peer: peer, Msg: api.Message{Badge: badge}}
}
