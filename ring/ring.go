// Package ring is layer 29, a ring of numbers: see shared/doc/29-ring.md.
package ring

import "iter"

// Ring is members that are linked both ways, the tail to the head too.
// The head means nothing while the ring is empty.
type Ring struct {
	next, prev map[int]int
	head       int
}

// New returns an empty ring (P29.1).
func New() *Ring { return &Ring{next: map[int]int{}, prev: map[int]int{}} }

// Len returns the number of members (P29.2).
func (r *Ring) Len() int {
	if r == nil {
		return 0
	}
	return len(r.next)
}

// Has reports whether id is in the ring (P29.1).
func (r *Ring) Has(id int) bool {
	if r == nil {
		return false
	}
	_, ok := r.next[id]
	return ok
}

// Add appends id at the tail unless it is in the ring (P29.1).
func (r *Ring) Add(id int) bool {
	if r == nil || r.Has(id) {
		return false
	}
	if r.Len() == 0 {
		r.head = id
		r.link(id, id)
		return true
	}
	r.link(r.prev[r.head], id)
	r.link(id, r.head)
	return true
}

func (r *Ring) link(a, b int) { r.next[a], r.prev[b] = b, a }

// Drop removes id; the others keep their order (P29.1).
func (r *Ring) Drop(id int) bool {
	if !r.Has(id) {
		return false
	}
	before, behind := r.prev[id], r.next[id]
	r.link(before, behind)
	delete(r.next, id)
	delete(r.prev, id)
	if r.head == id {
		r.head = behind
	}
	return true
}

// Head returns the head (P29.1).
func (r *Ring) Head() (int, bool) {
	if r.Len() == 0 {
		return 0, false
	}
	return r.head, true
}

// Turn returns the head and moves it to the tail (P29.1).
func (r *Ring) Turn() (int, bool) {
	id, ok := r.Head()
	if ok {
		r.head = r.next[id]
	}
	return id, ok
}

// All returns an iterator over the members from head to tail (P29.2).
func (r *Ring) All() iter.Seq[int] {
	return func(yield func(int) bool) {
		// Listed ahead of the first yield: the loop is promised the state at its beginning.
		for _, id := range r.Order() {
			if !yield(id) {
				return
			}
		}
	}
}

// Order returns the members from head to tail (P29.2).
func (r *Ring) Order() []int {
	id, _ := r.Head()
	var order []int
	for range r.Len() {
		order = append(order, id)
		id = r.next[id]
	}
	return order
}

// Clear removes all members (P29.2).
func (r *Ring) Clear() {
	if r == nil {
		return
	}
	clear(r.next)
	clear(r.prev)
}

// Copy returns an independent ring in the same state (P29.2).
func (r *Ring) Copy() *Ring {
	if r == nil {
		return nil
	}
	c := New()
	for id := range r.All() {
		c.Add(id)
	}
	return c
}
