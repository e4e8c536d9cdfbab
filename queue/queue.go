// Package queue: who stands in a row, the first one first. Queues of the scheduler and lines of ends and bells are of this type.
package queue

import (
	"iter"
	"slices"
)

// Queue: those who stand there. In one that is not filled yet nobody does.
type Queue[T comparable] struct {
	row []T
}

// Join: behind all others.
func (q *Queue[T]) Join(who T) {
	q.row = append(q.row, who)
}

// Leave: it stands there no more; those behind it move up.
func (q *Queue[T]) Leave(who T) {
	if i := slices.Index(q.row, who); i >= 0 {
		q.row = slices.Delete(q.row, i, i+1)
	}
}

// First: false: nobody stands there.
func (q *Queue[T]) First() (T, bool) {
	if len(q.row) == 0 {
		var nobody T
		return nobody, false
	}
	return q.row[0], true
}

// All: each who stands there, in order. Nobody may join or leave meanwhile.
func (q *Queue[T]) All() iter.Seq[T] {
	return func(yield func(T) bool) {
		for _, who := range q.row {
			if !yield(who) {
				return
			}
		}
	}
}
