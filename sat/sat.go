// Package sat is layer 1, saturating integer arithmetic: see shared/doc/01-sat.md.
package sat

import (
	"math/bits"

	"flashlock/api"
)

// The halves of a long product, by their places in its array.
const (
	low  = 0
	high = 1
)

// Hold returns x clamped to the range from -Most to Most (P1.1).
func Hold(x int) int {
	if x > api.Most {
		return api.Most
	}
	if x < -api.Most {
		return -api.Most
	}
	return x
}

// Add returns the sum of the clamped arguments, clamped (P1.1).
func Add(a, b int) int { return Hold(Hold(a) + Hold(b)) }

// Sub returns the difference of the clamped arguments, clamped (P1.1).
func Sub(a, b int) int { return Hold(Hold(a) - Hold(b)) }

// Mul returns the product of the clamped arguments, clamped (P1.1).
func Mul(a, b int) int {
	a, b = Hold(a), Hold(b)
	p := product(size(a), size(b))
	n := api.Most
	if p[high] == 0 && p[low] < api.Most {
		n = int(p[low])
	}
	if (a < 0) != (b < 0) {
		return -n
	}
	return n
}

// Sum returns the exact sum and true if 64 bits hold it (P1.2).
func Sum(a, b int) (int, bool) {
	s := a + b
	// A sum that wrapped round lies on the wrong side of a.
	if (s < a) != (b < 0) {
		return 0, false
	}
	return s, true
}

// Diff returns the exact difference and true if 64 bits hold it (P1.2).
func Diff(a, b int) (int, bool) {
	d := a - b
	// A difference that wrapped round lies on the wrong side of a.
	if (d > a) != (b < 0) {
		return 0, false
	}
	return d, true
}

// Part returns a times b divided by c, rounded down, at most Most (P1.3).
func Part(a, b, c int) int {
	if !divisible(a, b, c) {
		return 0
	}
	q, _ := divide(product(uint64(a), uint64(b)), uint64(c))
	return Hold(q)
}

// Up returns a times b divided by c, rounded up, at most Most (P1.3).
func Up(a, b, c int) int {
	if !divisible(a, b, c) {
		return 0
	}
	q, rest := divide(product(uint64(a), uint64(b)), uint64(c))
	if rest {
		q++
	}
	return Hold(q)
}

// divisible reports whether Part and Up are defined for the arguments.
func divisible(a, b, c int) bool {
	return a >= 0 && a <= api.Most && b >= 0 && b <= api.Most && c >= 1 && c <= api.Most
}

// size returns the absolute value of a clamped number.
func size(x int) uint64 {
	if x < 0 {
		return uint64(-x)
	}
	return uint64(x)
}

// product returns the halves of a long product.
func product(a, b uint64) [2]uint64 {
	var p [2]uint64
	p[high], p[low] = bits.Mul64(a, b)
	return p
}

// divide returns p divided by c, rounded down, and whether something is left over.
// It stops as soon as the quotient is above Most, since further bits only make it
// greater; c is at most Most, so that what is left never outgrows its 64 bits.
func divide(p [2]uint64, c uint64) (quotient int, rest bool) {
	var left uint64
halves:
	for half := high; half >= low; half-- {
		for bit := 63; bit >= 0; bit-- {
			left = left<<1 | p[half]>>bit&1
			quotient <<= 1
			if left >= c {
				left -= c
				quotient |= 1
			}
			if quotient > api.Most {
				break halves
			}
		}
	}
	return quotient, left > 0
}
