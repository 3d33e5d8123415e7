// Package timer is layer 32, a timer queue: see shared/doc/32-timer.md.
package timer

import "container/heap"

type wake struct{ id, at int }

// queue is a heap of wake-up times; place holds the position of each id in it.
type queue struct {
	wakes []wake
	place map[int]int
}

func (q *queue) Len() int { return len(q.wakes) }

func (q *queue) Less(i, j int) bool {
	a, b := q.wakes[i], q.wakes[j]
	if a.at != b.at {
		return a.at < b.at
	}
	return a.id < b.id
}

func (q *queue) Swap(i, j int) {
	q.wakes[i], q.wakes[j] = q.wakes[j], q.wakes[i]
	q.place[q.wakes[i].id] = i
	q.place[q.wakes[j].id] = j
}

// Push is called by the heap only, with what Set handed to it.
func (q *queue) Push(x any) {
	w := x.(wake)
	q.place[w.id] = len(q.wakes)
	q.wakes = append(q.wakes, w)
}

// Pop is called by the heap only, when there is a last element.
func (q *queue) Pop() any {
	last := len(q.wakes) - 1
	w := q.wakes[last]
	q.wakes = q.wakes[:last]
	delete(q.place, w.id)
	return w
}

// Timer is who is to be woken, and when.
type Timer struct{ queue *queue }

// New returns an empty queue (P32.1).
func New() *Timer { return &Timer{queue: &queue{place: map[int]int{}}} }

// Set sets the wake-up time of id, in place of an earlier one (P32.1).
func (t *Timer) Set(id, at int) {
	if t == nil {
		return
	}
	place, ok := t.queue.place[id]
	if !ok {
		heap.Push(t.queue, wake{id: id, at: at})
		return
	}
	t.queue.wakes[place].at = at
	heap.Fix(t.queue, place)
}

// Stop removes the wake-up time of id (P32.1).
func (t *Timer) Stop(id int) bool {
	if t == nil {
		return false
	}
	place, ok := t.queue.place[id]
	if ok {
		heap.Remove(t.queue, place)
	}
	return ok
}

// At returns the wake-up time of id (P32.1).
func (t *Timer) At(id int) (int, bool) {
	if t == nil {
		return 0, false
	}
	place, ok := t.queue.place[id]
	if !ok {
		return 0, false
	}
	return t.queue.wakes[place].at, true
}

// Next returns the earliest wake-up time, the one of the smallest id if several are (P32.2).
func (t *Timer) Next() (id, at int, ok bool) {
	if t.Len() == 0 {
		return 0, 0, false
	}
	first := t.queue.wakes[0]
	return first.id, first.at, true
}

// Due removes the wake-up times that are not after now and returns their ids in order (P32.2).
func (t *Timer) Due(now int) []int {
	var due []int
	next := t.Next
	for _, at, ok := next(); ok && at <= now; _, at, ok = next() {
		first := heap.Pop(t.queue).(wake)
		due = append(due, first.id)
	}
	return due
}

// Len returns the number of wake-up times (P32.1).
func (t *Timer) Len() int {
	if t == nil {
		return 0
	}
	return t.queue.Len()
}
