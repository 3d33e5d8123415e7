// Package share is layer 3, floating-point shares of the link: see shared/doc/03-share.md.
package share

import (
	"math"

	"flashlock/api"
)

// What a float is.
const (
	NaN      = 0
	MinusInf = 1
	Minus    = 2
	MinusNil = 3
	PlusNil  = 4
	Plus     = 5
	PlusInf  = 6
)

// Kind returns the class of x (P3.1).
func Kind(x float64) int {
	switch {
	case math.IsNaN(x):
		return NaN
	case math.IsInf(x, -1):
		return MinusInf
	case math.IsInf(x, 1):
		return PlusInf
	case x < 0:
		return Minus
	case x > 0:
		return Plus
	case math.Signbit(x):
		return MinusNil
	}
	return PlusNil
}

// Same reports whether a and b have the same bits, or both are NaN (P3.1).
func Same(a, b float64) bool {
	if math.IsNaN(a) {
		return math.IsNaN(b)
	}
	return math.Float64bits(a) == math.Float64bits(b)
}

// Less reports whether a precedes b, by kind and then by value (P3.1).
func Less(a, b float64) bool {
	kind, other := Kind(a), Kind(b)
	if kind != other {
		return kind < other
	}
	switch kind {
	case Minus:
		fallthrough
	case Plus:
		return a < b
	}
	return false
}

// Units returns the number of units nearest to x, ties to even (P3.2).
func Units(x float64) (int, api.Errno) {
	switch Kind(x) {
	case NaN:
		return 0, api.ErrFloat
	case MinusInf:
		fallthrough
	case Minus:
		return 0, api.ErrRange
	}
	if x > 1 {
		return 0, api.ErrRange
	}
	// The product is exact, for Whole is a power of two: only RoundToEven rounds.
	return int(math.RoundToEven(x * api.Whole)), api.OK
}

// Of returns that many units as a float (P3.2).
func Of(units int) float64 {
	if units <= 0 {
		return 0
	}
	if units >= api.Whole {
		return 1
	}
	return float64(units) / api.Whole
}

// Clamp returns x within the range from 0 to 1, with NaN as positive zero (P3.2).
func Clamp(x float64) float64 {
	switch Kind(x) {
	case NaN:
		fallthrough
	case MinusInf:
		fallthrough
	case Minus:
		fallthrough
	case MinusNil:
		return 0
	}
	if x > 1 {
		return 1
	}
	return x
}

// Total returns the sum of l, added from left to right (P3.3).
func Total(l []float64) float64 {
	var total float64
	for _, x := range l {
		total += x
	}
	return total
}

// Top returns the index of the first greatest element by Less (P3.3).
func Top(l []float64) (int, bool) {
	if len(l) == 0 {
		return 0, false
	}
	top := 0
	for i, x := range l {
		if Less(l[top], x) {
			top = i
		}
	}
	return top, true
}
