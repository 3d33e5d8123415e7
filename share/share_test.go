package share_test

import (
	"math"
	"slices"
	"testing"

	"flashlock/api"
	"flashlock/share"
)

var (
	minusNil = math.Copysign(0, -1)
	otherNaN = math.Float64frombits(math.Float64bits(math.NaN()) ^ 1<<63 ^ 5)
	inf      = math.Inf(1)
	tiny     = math.SmallestNonzeroFloat64
)

// ordered are values in the order of Less, no two of them Same.
func ordered() []float64 {
	return []float64{
		math.NaN(), -inf, -math.MaxFloat64, -1, -0.5, -tiny, minusNil,
		0, tiny, 0x1p-21, 0.5, math.Nextafter(1, 0), 1, math.Nextafter(1, 2), math.MaxFloat64, inf,
	}
}

func isPlusNil(x float64) bool { return x == 0 && !math.Signbit(x) }

func TestKind(t *testing.T) { // P3.1
	want := []int{
		share.NaN, share.MinusInf, share.Minus, share.Minus, share.Minus, share.Minus, share.MinusNil,
		share.PlusNil, share.Plus, share.Plus, share.Plus, share.Plus, share.Plus, share.Plus, share.Plus, share.PlusInf,
	}
	for i, x := range ordered() {
		if got := share.Kind(x); got != want[i] {
			t.Errorf("Kind(%g) = %d, want %d", x, got, want[i])
		}
	}
	if got := share.Kind(otherNaN); got != share.NaN {
		t.Error("Kind of a negative NaN", got)
	}
}

func TestKindNumbers(t *testing.T) { // P3.1
	got := []int{share.NaN, share.MinusInf, share.Minus, share.MinusNil, share.PlusNil, share.Plus, share.PlusInf}
	if !slices.Equal(got, []int{0, 1, 2, 3, 4, 5, 6}) {
		t.Error(got)
	}
}

func TestSameAndLess(t *testing.T) { // P3.1
	for i, a := range ordered() {
		for j, b := range ordered() {
			if got := share.Same(a, b); got != (i == j) {
				t.Errorf("Same(%g, %g) = %t", a, b, got)
			}
			if got := share.Less(a, b); got != (i < j) {
				t.Errorf("Less(%g, %g) = %t", a, b, got)
			}
		}
	}
	if !share.Same(math.NaN(), otherNaN) || !share.Same(otherNaN, math.NaN()) {
		t.Error("two NaNs of different bits are Same")
	}
	if share.Less(math.NaN(), otherNaN) || share.Less(otherNaN, math.NaN()) {
		t.Error("no NaN precedes another one")
	}
}

func TestUnits(t *testing.T) { // P3.2
	rows := []struct {
		x    float64
		want int
		err  api.Errno
	}{
		{0, 0, api.OK},
		{minusNil, 0, api.OK},
		{0.5, 524288, api.OK},
		{1, api.Whole, api.OK},
		{math.Nextafter(1, 0), api.Whole, api.OK},
		{0x1p-20, 1, api.OK},
		{0x1p-21, 0, api.OK},
		{math.Nextafter(0x1p-21, 1), 1, api.OK},
		{math.Nextafter(0x1p-21, 0), 0, api.OK},
		{1.5 * 0x1p-20, 2, api.OK},
		{2.5 * 0x1p-20, 2, api.OK},
		{math.Nextafter(2.5*0x1p-20, 1), 3, api.OK},
		{3.5 * 0x1p-20, 4, api.OK},
		{1 - 0x1p-21, api.Whole, api.OK},
		{1 - 1.5*0x1p-20, api.Whole - 2, api.OK},
		{0.1, 104858, api.OK},
		{tiny, 0, api.OK},
		{math.NaN(), 0, api.ErrFloat},
		{otherNaN, 0, api.ErrFloat},
		{-tiny, 0, api.ErrRange},
		{-0.5, 0, api.ErrRange},
		{math.Nextafter(1, 2), 0, api.ErrRange},
		{math.MaxFloat64, 0, api.ErrRange},
		{inf, 0, api.ErrRange},
		{-inf, 0, api.ErrRange},
	}
	for _, r := range rows {
		if got, err := share.Units(r.x); got != r.want || err != r.err {
			t.Errorf("Units(%g) = %d, %d, want %d, %d", r.x, got, err, r.want, r.err)
		}
	}
}

func TestOf(t *testing.T) { // P3.2
	rows := []struct {
		units int
		want  float64
	}{
		{1, 0x1p-20},
		{524288, 0.5},
		{api.Whole - 1, 1 - 0x1p-20},
		{api.Whole, 1},
		{api.Whole + 1, 1},
		{math.MaxInt, 1},
	}
	for _, r := range rows {
		if got := share.Of(r.units); got != r.want {
			t.Errorf("Of(%d) = %g, want %g", r.units, got, r.want)
		}
	}
	for _, units := range []int{0, -1, math.MinInt} {
		if got := share.Of(units); !isPlusNil(got) {
			t.Errorf("Of(%d) = %g, want positive zero", units, got)
		}
	}
}

func TestClamp(t *testing.T) { // P3.2
	for _, x := range []float64{math.NaN(), otherNaN, minusNil, 0, -tiny, -1, -math.MaxFloat64, -inf} {
		if got := share.Clamp(x); !isPlusNil(got) {
			t.Errorf("Clamp(%g) = %g, want positive zero", x, got)
		}
	}
	for _, x := range []float64{tiny, 0x1p-21, 0.3, math.Nextafter(1, 0), 1} {
		if got := share.Clamp(x); got != x {
			t.Errorf("Clamp(%g) = %g", x, got)
		}
	}
	for _, x := range []float64{math.Nextafter(1, 2), 2, math.MaxFloat64, inf} {
		if got := share.Clamp(x); got != 1 {
			t.Errorf("Clamp(%g) = %g, want 1", x, got)
		}
	}
}

func TestTotal(t *testing.T) { // P3.3
	rows := []struct {
		l    []float64
		want float64
	}{
		{nil, 0},
		{[]float64{}, 0},
		{[]float64{minusNil}, 0},
		{[]float64{minusNil, minusNil}, 0},
		{[]float64{0.5, 0.25}, 0.75},
		{[]float64{1, 0x1p-53, 0x1p-53}, 1},
		{[]float64{0x1p-53, 0x1p-53, 1}, 1 + 0x1p-52},
		{[]float64{math.MaxFloat64, math.MaxFloat64, -math.MaxFloat64}, inf},
		{[]float64{math.MaxFloat64, -math.MaxFloat64, 1}, 1},
		{[]float64{inf, -inf}, math.NaN()},
		{[]float64{1, math.NaN(), 1}, math.NaN()},
	}
	for _, r := range rows {
		if got := share.Total(r.l); !share.Same(got, r.want) {
			t.Errorf("Total(%v) = %g, want %g", r.l, got, r.want)
		}
	}
}

func TestTop(t *testing.T) { // P3.3
	rows := []struct {
		l    []float64
		want int
		ok   bool
	}{
		{nil, 0, false},
		{[]float64{}, 0, false},
		{[]float64{-inf}, 0, true},
		{[]float64{0.1, 0.9, 0.5, 0.9}, 1, true},
		{[]float64{minusNil, 0, minusNil, 0}, 1, true},
		{[]float64{math.NaN(), -inf}, 1, true},
		{[]float64{-inf, math.NaN()}, 0, true},
		{[]float64{math.NaN(), otherNaN}, 0, true},
		{[]float64{1, inf, math.NaN(), inf}, 1, true},
		{ordered(), len(ordered()) - 1, true},
	}
	for _, r := range rows {
		if got, ok := share.Top(r.l); got != r.want || ok != r.ok {
			t.Errorf("Top(%v) = %d, %t, want %d, %t", r.l, got, ok, r.want, r.ok)
		}
	}
}

func TestArgumentsAreKept(t *testing.T) { // P3.3
	l := []float64{0.5, 1, 0.25}
	share.Total(l)
	share.Top(l)
	if !slices.Equal(l, []float64{0.5, 1, 0.25}) {
		t.Error(l)
	}
}

func TestUnitsInvertsOf(t *testing.T) { // P3.4
	for units := 0; units <= api.Whole; units++ {
		if got, err := share.Units(share.Of(units)); got != units || err != api.OK {
			t.Fatalf("Units(Of(%d)) = %d, %d", units, got, err)
		}
	}
}

func TestLessIsAStrictWeakOrder(t *testing.T) { // P3.4
	l := append(ordered(), otherNaN, 0.5, minusNil, 0, inf, -inf, -1)
	for _, a := range l {
		for _, b := range l {
			apart := share.Less(a, b) || share.Less(b, a)
			if apart == share.Same(a, b) || share.Less(a, b) && share.Less(b, a) {
				t.Errorf("%g and %g", a, b)
			}
			for _, c := range l {
				if share.Less(a, b) && share.Less(b, c) && !share.Less(a, c) {
					t.Errorf("%g, %g and %g", a, b, c)
				}
			}
		}
	}
}
