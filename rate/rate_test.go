package rate_test

import (
	"math"
	"math/big"
	"testing"

	"flashlock/api"
	"flashlock/rate"
)

var (
	inTpbs   = []int{1, 2, 10, 1000, api.MaxTpb - 1, api.MaxTpb}
	inUnits  = []int{1, 2, 3, 7, 1000, api.Whole / 2, api.Whole - 1, api.Whole}
	outRange = []int{math.MinInt, -1, 0, 1<<20 + 1, math.MaxInt}
)

// cells counts the cells of n bytes one by one.
func cells(n int) int {
	count := 0
	for ; n > 0; n -= 8 {
		count++
	}
	return count
}

// exact divides by math/big.
func exact(tpb, units, n int) int {
	a := new(big.Int).Mul(big.NewInt(int64(8*cells(n))), big.NewInt(int64(tpb)))
	a.Mul(a, big.NewInt(api.Whole))
	q, rest := new(big.Int).QuoRem(a, big.NewInt(int64(units)), new(big.Int))
	if rest.Sign() > 0 {
		q.Add(q, big.NewInt(1))
	}
	return int(q.Int64())
}

func table(t *testing.T, tpb, units int) *rate.Table {
	t.Helper()
	r, e := rate.New(tpb, units)
	if r == nil || e != api.OK {
		t.Fatalf("New(%d, %d) = %v, %d", tpb, units, r, e)
	}
	return r
}

func TestCells(t *testing.T) { // P4.1
	for n := 0; n <= api.MaxPacket; n++ {
		if got, want := rate.Cells(n), cells(n); got != want {
			t.Errorf("Cells(%d) = %d, want %d", n, got, want)
		}
	}
	for _, n := range []int{math.MinInt, -8, -1, 0} {
		if got := rate.Cells(n); got != 0 {
			t.Errorf("Cells(%d) = %d", n, got)
		}
	}
	for _, n := range []int{2047, 2048, 2049, 2056, 1 << 40, math.MaxInt - 6, math.MaxInt} {
		if got := rate.Cells(n); got != 256 {
			t.Errorf("Cells(%d) = %d", n, got)
		}
	}
}

func TestExact(t *testing.T) { // P4.1
	for _, tpb := range inTpbs {
		for _, units := range inUnits {
			for _, n := range []int{0, 1, 7, 8, 9, 16, 17, 1500, 2040, 2041, 2047, 2048} {
				if got, want := rate.Exact(tpb, units, n), exact(tpb, units, n); got != want {
					t.Errorf("Exact(%d, %d, %d) = %d, want %d", tpb, units, n, got, want)
				}
			}
			if got := rate.Exact(tpb, units, -1); got != 0 {
				t.Errorf("Exact(%d, %d, -1) = %d", tpb, units, got)
			}
			if got, want := rate.Exact(tpb, units, math.MaxInt), exact(tpb, units, 2048); got != want {
				t.Errorf("Exact(%d, %d, MaxInt) = %d, want %d", tpb, units, got, want)
			}
		}
	}
	if got := rate.Exact(api.MaxTpb, 1, 2048); got != 1<<51 {
		t.Errorf("the longest time is %d", got)
	}
}

func TestOutOfRange(t *testing.T) { // P4.1, P4.2
	for _, out := range outRange {
		if got := rate.Exact(out, api.Whole, 8); got != 0 {
			t.Errorf("Exact(%d, Whole, 8) = %d", out, got)
		}
		if got := rate.Exact(1, out, 8); got != 0 {
			t.Errorf("Exact(1, %d, 8) = %d", out, got)
		}
		if r, e := rate.New(out, api.Whole); r != nil || e != api.ErrRange {
			t.Errorf("New(%d, Whole) = %v, %d", out, r, e)
		}
		if r, e := rate.New(1, out); r != nil || e != api.ErrRange {
			t.Errorf("New(1, %d) = %v, %d", out, r, e)
		}
	}
}

func TestExample(t *testing.T) { // P4.2
	r := table(t, 10, api.Whole)
	if r.Time(1) != 80 || r.Time(9) != 160 || r.Bytes(159) != 8 {
		t.Errorf("%d, %d, %d", r.Time(1), r.Time(9), r.Bytes(159))
	}
}

func TestTime(t *testing.T) { // P4.2
	for _, tpb := range inTpbs {
		for _, units := range inUnits {
			r := table(t, tpb, units)
			for n := -1; n <= api.MaxPacket+1; n++ {
				if got, want := r.Time(n), rate.Exact(tpb, units, n); got != want {
					t.Fatalf("Time(%d) = %d, want %d (%d, %d)", n, got, want, tpb, units)
				}
			}
			for _, n := range []int{math.MinInt, math.MaxInt} {
				if got, want := r.Time(n), rate.Exact(tpb, units, n); got != want {
					t.Errorf("Time(%d) = %d, want %d (%d, %d)", n, got, want, tpb, units)
				}
			}
		}
	}
}

// longest tries all lengths.
func longest(r *rate.Table, ticks int) int {
	best := 0
	for n := 0; n <= api.MaxPacket; n++ {
		if r.Time(n) <= ticks {
			best = n
		}
	}
	return best
}

func TestBytes(t *testing.T) { // P4.2
	for _, units := range inUnits {
		r := table(t, 3, units)
		for _, n := range []int{0, 1, 8, 9, 16, 1500, 2033, 2040, 2041, 2048} {
			for _, ticks := range []int{r.Time(n) - 1, r.Time(n), r.Time(n) + 1} {
				if ticks < 0 {
					continue
				}
				if got, want := r.Bytes(ticks), longest(r, ticks); got != want {
					t.Errorf("Bytes(%d) = %d, want %d (%d units)", ticks, got, want, units)
				}
			}
		}
		for _, ticks := range []int{math.MinInt, -1, 0} {
			if got := r.Bytes(ticks); got != 0 {
				t.Errorf("Bytes(%d) = %d", ticks, got)
			}
		}
		if got := r.Bytes(math.MaxInt); got != api.MaxPacket {
			t.Errorf("Bytes(MaxInt) = %d", got)
		}
	}
}

func TestNil(t *testing.T) { // P4.2
	var r *rate.Table
	if r.Time(8) != 0 || r.Bytes(1000) != 0 || r.Time(-1) != 0 || r.Bytes(-1) != 0 {
		t.Error("nil table")
	}
}

func TestTablesAreApart(t *testing.T) { // P4.2
	a, b := table(t, 1, api.Whole), table(t, 5, 1)
	if a.Time(8) != 8 || b.Time(8) != 40*api.Whole || a.Time(8) != 8 {
		t.Error("a table changed another one")
	}
}

func TestTimesAreInOrder(t *testing.T) { // P4.3
	for _, tpb := range inTpbs {
		for i, units := range inUnits {
			r := table(t, tpb, units)
			for n := range api.MaxPacket {
				if r.Time(n) > r.Time(n+1) {
					t.Fatalf("%d bytes take longer than %d (%d, %d)", n, n+1, tpb, units)
				}
				// n bytes at this share: n * tpb * Whole / units.
				atShare := new(big.Rat).SetFrac(big.NewInt(int64(n*tpb*api.Whole)), big.NewInt(int64(units)))
				if new(big.Rat).SetInt64(int64(r.Time(n))).Cmp(atShare) < 0 {
					t.Fatalf("%d bytes take less than their share (%d, %d)", n, tpb, units)
				}
				if i > 0 && rate.Exact(tpb, inUnits[i-1], n) < r.Time(n) {
					t.Fatalf("%d bytes take longer with a greater share (%d, %d)", n, tpb, units)
				}
			}
		}
	}
}
