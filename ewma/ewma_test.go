package ewma_test

import (
	"math"
	"math/big"
	"math/rand"
	"testing"

	"flashlock/api"
	"flashlock/ewma"
	"flashlock/sat"
)

// numbers are the bounds that the chapter names, and what lies beside them.
var numbers = []int{
	math.MinInt, math.MinInt + 1, -api.Most - 1, -api.Most, -api.Most + 1, -1<<40 - 1, -1 << 40, -65537, -4, -3, -2, -1,
	0, 1, 2, 3, 4, 7, 8, 65535, 65536, 1 << 40, 1<<40 + 1, api.Most - 1, api.Most, api.Most + 1, math.MaxInt - 1, math.MaxInt,
}

var noWeights = []int{math.MinInt, -1, api.MaxWeight + 1, 62, 63, 64, math.MaxInt}

// draw returns a number of any length.
func draw(r *rand.Rand) int { return int(r.Uint64()) >> r.Intn(64) }

// floor divides by Euclid's rule, which rounds down for positive divisors.
func floor(x, w int) int {
	divisor := new(big.Int).Lsh(big.NewInt(1), uint(w))
	return int(new(big.Int).Div(big.NewInt(int64(x)), divisor).Int64())
}

func TestFloor(t *testing.T) { // P2.1
	r := rand.New(rand.NewSource(1))
	for w := 0; w <= 62; w++ {
		xs := append([]int{1<<w - 1, 1 << w, -1 << w, -1<<w - 1, -1<<w + 1}, numbers...)
		for range 50 {
			xs = append(xs, draw(r))
		}
		for _, x := range xs {
			if got, want := ewma.Floor(x, w), floor(x, w); got != want {
				t.Errorf("Floor(%d, %d) = %d, want %d", x, w, got, want)
			}
		}
	}
}

func TestFloorOfOtherWeights(t *testing.T) { // P2.1
	for _, w := range []int{math.MinInt, -64, -1, 63, 64, 65, math.MaxInt} {
		for _, x := range numbers {
			if got := ewma.Floor(x, w); got != 0 {
				t.Errorf("Floor(%d, %d) = %d", x, w, got)
			}
		}
	}
}

func TestStep(t *testing.T) { // P2.1
	for _, c := range []struct{ avg, x, w, want int }{
		{0, 7, 2, 1},
		{0, -1, 2, -1},
		{0, 3, 2, 0},
		{10, 10, 3, 10},
		{10, 0, 0, 0},
		{100, 0, 1, 50},
		{0, 65535, 16, 0},
		{0, 65536, 16, 1},
		{-3, 9, 2, 0},
		{0, math.MaxInt, 0, api.Most},
		{0, math.MinInt, 0, -api.Most},
		{math.MaxInt, math.MaxInt, 4, api.Most},
		{math.MinInt, math.MinInt, 4, -api.Most},
		// The difference of the ends of the range saturates before it is divided.
		{-api.Most, api.Most, 0, 0},
		{api.Most, -api.Most, 1, api.Most / 2},
	} {
		if got := ewma.Step(c.avg, c.x, c.w); got != c.want {
			t.Errorf("Step(%d, %d, %d) = %d, want %d", c.avg, c.x, c.w, got, c.want)
		}
	}
}

func TestStepByItsFormula(t *testing.T) { // P2.1
	for w := 0; w <= api.MaxWeight; w++ {
		for _, avg := range numbers {
			for _, x := range numbers {
				if got, want := ewma.Step(avg, x, w), sat.Add(avg, floor(sat.Sub(x, avg), w)); got != want {
					t.Errorf("Step(%d, %d, %d) = %d, want %d", avg, x, w, got, want)
				}
			}
		}
	}
}

func TestStepOfOtherWeights(t *testing.T) { // P2.1
	for _, w := range noWeights {
		for _, avg := range numbers {
			if got := ewma.Step(avg, 5, w); got != sat.Hold(avg) {
				t.Errorf("Step(%d, 5, %d) = %d", avg, w, got)
			}
		}
	}
}

func TestRun(t *testing.T) { // P2.1
	if got := ewma.Run(0, 0, 3, 4); got != 4 {
		t.Errorf("Run(0, 0, 3, 4) = %d", got)
	}
	if got := ewma.Run(0, 1, 8, 8, -8); got != -1 {
		t.Errorf("Run(0, 1, 8, 8, -8) = %d", got)
	}
	xs := []int{8, 8, -8}
	if got := ewma.Run(0, 1, xs...); got != -1 || xs[0] != 8 || xs[1] != 8 || xs[2] != -8 {
		t.Errorf("Run = %d and leaves %v", got, xs)
	}
	for _, avg := range numbers {
		if got := ewma.Run(avg, 2); got != avg {
			t.Errorf("Run(%d, 2) = %d", avg, got)
		}
		if got := ewma.Run(avg, -1, 1, 2); got != sat.Hold(avg) {
			t.Errorf("Run(%d, -1, 1, 2) = %d", avg, got)
		}
	}
}

func TestRest(t *testing.T) { // P2.1
	steps := func(avg, x, w, n int) int {
		for i := 0; i < n; i++ {
			avg = ewma.Step(avg, x, w)
		}
		return avg
	}
	for _, avg := range []int{0, 1 << 50, -1 << 50, math.MaxInt} {
		for _, n := range []int{0, 1, 2, 17, 999, 1000} {
			// Weight 16 is slow enough that every further step can be seen.
			if got, want := ewma.Rest(avg, 3, 16, n), steps(avg, 3, 16, n); got != want {
				t.Errorf("Rest(%d, 3, 16, %d) = %d, want %d", avg, n, got, want)
			}
		}
		for _, n := range []int{-1, -1000, math.MinInt} {
			if got := ewma.Rest(avg, 3, 16, n); got != avg {
				t.Errorf("Rest(%d, 3, 16, %d) = %d", avg, n, got)
			}
		}
		for _, n := range []int{1001, 2000, math.MaxInt} {
			if got, want := ewma.Rest(avg, 3, 16, n), steps(avg, 3, 16, 1000); got != want {
				t.Errorf("Rest(%d, 3, 16, %d) = %d, want %d", avg, n, got, want)
			}
		}
	}
	if steps(1<<50, 3, 16, 1000) == steps(1<<50, 3, 16, 1001) {
		t.Error("the thousandth step cannot be seen")
	}
}

func TestAway(t *testing.T) { // P2.2
	for _, c := range []struct{ avg, w, want int }{
		{-3, 2, 9},
		{-1, 0, 0},
		{-1 << 40, 0, 0},
		{-1, 1, 1},
		{-1, 16, 65535},
		{-1 << 40, 16, 1<<56 - 1<<40},
		{-1<<40 + 1, 16, (1<<40 - 1) * 65535},
	} {
		if got := ewma.Away(c.avg, c.w); got != c.want {
			t.Errorf("Away(%d, %d) = %d, want %d", c.avg, c.w, got, c.want)
		}
	}
}

func TestAwayIsTheSmallest(t *testing.T) { // P2.2, P2.3
	r := rand.New(rand.NewSource(2))
	for w := 0; w <= api.MaxWeight; w++ {
		for range 200 {
			avg := -1 - r.Intn(1<<r.Intn(41))
			x := ewma.Away(avg, w)
			if x < 0 || ewma.Step(avg, x, w) < 0 {
				t.Errorf("Away(%d, %d) = %d is too small", avg, w, x)
			}
			if x > 0 && ewma.Step(avg, x-1, w) >= 0 {
				t.Errorf("Away(%d, %d) = %d is not the smallest", avg, w, x)
			}
		}
	}
}

func TestAwayOfOtherArguments(t *testing.T) { // P2.2
	for _, avg := range []int{math.MinInt, -api.Most, -1<<40 - 1, 0, 1, 1 << 40, math.MaxInt} {
		if got := ewma.Away(avg, 2); got != 0 {
			t.Errorf("Away(%d, 2) = %d", avg, got)
		}
	}
	for _, w := range noWeights {
		if got := ewma.Away(-3, w); got != 0 {
			t.Errorf("Away(-3, %d) = %d", w, got)
		}
	}
}

func TestStepStaysBetween(t *testing.T) { // P2.3
	for w := 0; w <= api.MaxWeight; w++ {
		for _, avg := range numbers {
			for _, x := range numbers {
				low, high := min(sat.Hold(avg), sat.Hold(x)), max(sat.Hold(avg), sat.Hold(x))
				if got := ewma.Step(avg, x, w); got < low || got > high {
					t.Errorf("Step(%d, %d, %d) = %d", avg, x, w, got)
				}
			}
		}
	}
}
