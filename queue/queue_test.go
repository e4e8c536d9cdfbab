package queue_test

import (
	"slices"
	"testing"

	"vault/queue"
)

type pair struct{ a, b int }

func stand[T comparable](t *testing.T, q *queue.Queue[T], want ...T) {
	t.Helper()
	if l := slices.Collect(q.All()); !slices.Equal(l, want) {
		t.Errorf("there stand %v, wanted %v", l, want)
	}
	first, ok := q.First()
	var nobody T
	if len(want) > 0 {
		nobody = want[0]
	}
	if ok != (len(want) > 0) || first != nobody {
		t.Errorf("First: %v, %v, wanted %v", first, ok, nobody)
	}
}

func TestRow(t *testing.T) {
	var q queue.Queue[pair]
	stand(t, &q)
	q.Leave(pair{1, 2})
	stand(t, &q)
	for i := range 5 {
		q.Join(pair{i, 0})
	}
	stand(t, &q, pair{0, 0}, pair{1, 0}, pair{2, 0}, pair{3, 0}, pair{4, 0})
	q.Leave(pair{2, 1})
	stand(t, &q, pair{0, 0}, pair{1, 0}, pair{2, 0}, pair{3, 0}, pair{4, 0})
	q.Leave(pair{2, 0})
	stand(t, &q, pair{0, 0}, pair{1, 0}, pair{3, 0}, pair{4, 0})
	q.Leave(pair{0, 0})
	stand(t, &q, pair{1, 0}, pair{3, 0}, pair{4, 0})
	q.Leave(pair{4, 0})
	stand(t, &q, pair{1, 0}, pair{3, 0})
	q.Join(pair{0, 0})
	stand(t, &q, pair{1, 0}, pair{3, 0}, pair{0, 0})
	for _, who := range []pair{{1, 0}, {3, 0}, {0, 0}} {
		q.Leave(who)
	}
	stand(t, &q)
	q.Join(pair{9, 9})
	stand(t, &q, pair{9, 9})
}

// TestAllStops: who goes through a row may stop wherever it likes.
func TestAllStops(t *testing.T) {
	var q queue.Queue[int]
	for i := range 4 {
		q.Join(i)
	}
	for stop := range 4 {
		var l []int
		for who := range q.All() {
			l = append(l, who)
			if who == stop {
				break
			}
		}
		if len(l) != stop+1 || l[stop] != stop {
			t.Errorf("to %d: %v", stop, l)
		}
	}
	stand(t, &q, 0, 1, 2, 3)
}

func TestRowsApart(t *testing.T) {
	var rows [2]queue.Queue[string]
	rows[0].Join("a")
	rows[0].Join("b")
	stand(t, &rows[1])
	rows[1].Join("b")
	rows[0].Leave("b")
	stand(t, &rows[0], "a")
	stand(t, &rows[1], "b")
}
