// Package slab is layer 6, a slot allocator with generation-checked handles: see shared/doc/06-slab.md.
package slab

import (
	"slices"

	"flashlock/api"
)

// The states of a slot.
const (
	free = iota
	taken
)

// Handle names a slot and its generation.
type Handle struct{ Slot, Turn int }

type slot struct{ state, turn int }

// Slab is a fixed set of slots and the stack of the free ones, whose top is its last element.
type Slab struct {
	slots []slot
	stack []int
}

// New returns a slab of n free slots, or nil (P6.1).
func New(n int) *Slab {
	if n < 1 || n > api.MaxSlots {
		return nil
	}
	s := &Slab{slots: make([]slot, n), stack: make([]int, n)}
	for i := range s.stack {
		s.stack[i] = n - 1 - i
	}
	return s
}

// Take allocates the slot on top of the stack (P6.1).
func (s *Slab) Take() (Handle, bool) {
	if s.Left() == 0 {
		return Handle{}, false
	}
	last := len(s.stack) - 1
	at := s.stack[last]
	s.stack = s.stack[:last]
	s.slots[at].state = taken
	return s.Of(at)
}

// Of returns the handle of an allocated slot (P6.2).
func (s *Slab) Of(at int) (Handle, bool) {
	if s == nil || at < 0 || at >= len(s.slots) || s.slots[at].state != taken {
		return Handle{}, false
	}
	return Handle{Slot: at, Turn: s.slots[at].turn}, true
}

// Live reports whether h is the present handle of an allocated slot (P6.2).
func (s *Slab) Live(h Handle) bool {
	present, ok := s.Of(h.Slot)
	return ok && present == h
}

// Give frees the slot of a live handle (P6.1).
func (s *Slab) Give(h Handle) bool {
	if !s.Live(h) {
		return false
	}
	s.slots[h.Slot] = slot{state: free, turn: h.Turn + 1}
	s.stack = append(s.stack, h.Slot)
	return true
}

// Left returns the number of free slots (P6.2).
func (s *Slab) Left() int {
	if s == nil {
		return 0
	}
	return len(s.stack)
}

// Copy returns an independent slab in the same state (P6.2).
func (s *Slab) Copy() *Slab {
	if s == nil {
		return nil
	}
	return &Slab{slots: slices.Clone(s.slots), stack: slices.Clone(s.stack)}
}
