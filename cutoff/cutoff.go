// Package cutoff is layer 28, the top level of borrowing: see shared/doc/28-cutoff.md.
package cutoff

import "flashlock/api"

// None is above all levels.
const None = api.MaxLevel + 1

// What may happen.
const (
	Comes = iota
	Goes
)

// Event is what happens.
type Event struct {
	Kind  int
	Level int
	Over  bool
	Empty bool
}

// Come returns the top level after a packet arrived (P28.1).
func Come(top, lender int, over bool) int {
	if !over {
		return 1
	}
	if lender > 0 && lender < top {
		return lender
	}
	return top
}

// Gone returns the top level after a packet was sent (P28.1).
func Gone(top, level int, over, empty bool) int {
	if level <= top && (over || empty) {
		return None
	}
	return top
}

// Run applies the events in order (P28.2).
func Run(top int, l []Event) int {
	for _, e := range l {
		if e.Kind != Comes && e.Kind != Goes {
			goto next
		}
		top = apply(top, e)
	next:
	}
	return top
}

// apply applies one event of a valid kind.
func apply(top int, e Event) int {
	if e.Kind == Comes {
		return Come(top, e.Level, e.Over)
	}
	return Gone(top, e.Level, e.Over, e.Empty)
}
