package sched

import (
	"vault/api"
	"vault/queue"
)

// runner is a thread. It stands in a queue just if it is ready, which its slice does not tell: that may be used up.
type runner struct {
	num, domain, prio int
	ready             bool
	left              int // of its slice
}

// find is a thread that is ready, or is not, as the call wants it.
func (s *Sched) find(thread int, ready bool) (*runner, api.Errno) {
	r := s.threads[thread]
	if r == nil {
		return nil, api.ErrName
	}
	if r.ready != ready {
		return nil, api.ErrState
	}
	return r, api.OK
}

func (s *Sched) queueOf(r *runner) *queue.Queue[*runner] {
	return &s.queues[r.domain][r.prio]
}

func (s *Sched) join(r *runner) {
	r.ready, r.left = true, api.Slice
	s.queueOf(r).Join(r)
}

func (s *Sched) leave(r *runner) {
	r.ready, r.left = false, 0
	s.queueOf(r).Leave(r)
}

func (s *Sched) rejoin(r *runner) {
	s.leave(r)
	s.join(r)
}

// first is who stands first in the highest queue of the turn's domain in which somebody stands; nil: nobody does.
func (s *Sched) first() *runner {
	queues := &s.queues[s.turns[s.turn].Domain]
	for prio := api.MaxPrio - 1; prio >= 0; prio-- {
		if r, ok := queues[prio].First(); ok {
			return r
		}
	}
	return nil
}
