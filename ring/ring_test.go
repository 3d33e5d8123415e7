package ring_test

import (
	"math"
	"math/rand"
	"slices"
	"testing"

	"flashlock/ring"
)

func of(t *testing.T, ids ...int) *ring.Ring {
	t.Helper()
	r := ring.New()
	for _, id := range ids {
		if !r.Add(id) {
			t.Fatalf("Add(%d)", id)
		}
	}
	return r
}

func holds(t *testing.T, r *ring.Ring, want ...int) {
	t.Helper()
	if got := r.Order(); !slices.Equal(got, want) {
		t.Errorf("Order() = %v, want %v", got, want)
	}
	if got := slices.Collect(r.All()); !slices.Equal(got, want) {
		t.Errorf("All() yields %v, want %v", got, want)
	}
	if r.Len() != len(want) {
		t.Errorf("Len() = %d, want %d", r.Len(), len(want))
	}
	head, ok := r.Head()
	if ok != (len(want) > 0) || ok && head != want[0] || !ok && head != 0 {
		t.Errorf("Head() = %d, %t", head, ok)
	}
	for _, id := range want {
		if !r.Has(id) {
			t.Errorf("Has(%d) is false", id)
		}
	}
}

func TestEmpty(t *testing.T) { // P29.1, P29.2
	r := ring.New()
	holds(t, r)
	if r.Has(0) || r.Drop(0) {
		t.Error("an empty ring has no member")
	}
	if id, ok := r.Turn(); id != 0 || ok {
		t.Error("Turn", id, ok)
	}
}

func TestExample(t *testing.T) { // P29.1
	r := of(t, 5, 6, 7)
	if id, ok := r.Turn(); id != 5 || !ok {
		t.Error("Turn", id, ok)
	}
	holds(t, r, 6, 7, 5)
}

func TestAdd(t *testing.T) { // P29.1
	r := of(t, 0, -3, math.MaxInt, math.MinInt)
	holds(t, r, 0, -3, math.MaxInt, math.MinInt)
	for _, id := range []int{0, -3, math.MaxInt, math.MinInt} {
		if r.Add(id) {
			t.Errorf("Add(%d) a second time", id)
		}
	}
	holds(t, r, 0, -3, math.MaxInt, math.MinInt)
	r.Turn()
	r.Add(8)
	holds(t, r, -3, math.MaxInt, math.MinInt, 0, 8)
}

func TestDrop(t *testing.T) { // P29.1
	rows := []struct {
		id   int
		want []int
	}{
		{5, []int{6, 7, 8}},
		{6, []int{5, 7, 8}},
		{8, []int{5, 6, 7}},
	}
	for _, x := range rows {
		r := of(t, 5, 6, 7, 8)
		if !r.Drop(x.id) || r.Drop(x.id) || r.Has(x.id) {
			t.Errorf("Drop(%d)", x.id)
		}
		holds(t, r, x.want...)
		r.Add(x.id)
		holds(t, r, append(x.want, x.id)...)
	}
	r := of(t, 5)
	if r.Drop(4) || r.Drop(0) || !r.Drop(5) || r.Has(5) {
		t.Error("Drop of the only member")
	}
	holds(t, r)
	r.Add(6)
	holds(t, r, 6)
}

func TestTurn(t *testing.T) { // P29.1, P29.3
	for _, ids := range [][]int{{5}, {5, 6}, {0, -1, 7, 3}} {
		r := of(t, ids...)
		var turned []int
		for range ids {
			head, _ := r.Head()
			id, ok := r.Turn()
			if id != head || !ok {
				t.Errorf("Turn = %d, %t, the head was %d", id, ok, head)
			}
			turned = append(turned, id)
		}
		if !slices.Equal(turned, ids) {
			t.Errorf("Turns returned %v, want %v", turned, ids)
		}
		holds(t, r, ids...)
	}
}

func TestAllSeesTheBeginningOfTheLoop(t *testing.T) { // P29.2
	r := of(t, 5, 6)
	all := r.All()
	r.Add(7)
	r.Turn()
	if got := slices.Collect(all); !slices.Equal(got, []int{6, 7, 5}) {
		t.Error("the state is taken when the loop begins", got)
	}
	for id := range all {
		if id != 6 {
			t.Error("a loop that is left goes on with", id)
		}
		break
	}
}

func TestClear(t *testing.T) { // P29.2
	r := of(t, 5, 6, 7)
	r.Clear()
	holds(t, r)
	if r.Has(5) || r.Drop(5) {
		t.Error("a member is left")
	}
	if id, ok := r.Turn(); id != 0 || ok {
		t.Error("Turn", id, ok)
	}
	r.Clear()
	if !r.Add(6) || !r.Add(5) {
		t.Error("Add after Clear")
	}
	holds(t, r, 6, 5)
}

func TestCopyIsIndependent(t *testing.T) { // P29.2
	r := of(t, 5, 6, 7)
	r.Turn()
	c := r.Copy()
	holds(t, c, 6, 7, 5)
	r.Drop(7)
	r.Add(9)
	holds(t, c, 6, 7, 5)
	c.Turn()
	c.Drop(6)
	holds(t, r, 6, 5, 9)
	c.Clear()
	holds(t, r, 6, 5, 9)
	holds(t, ring.New().Copy())
}

func TestNil(t *testing.T) { // P29.2
	var r *ring.Ring
	r.Clear()
	if r.Add(1) || r.Drop(1) || r.Has(1) || r.Copy() != nil {
		t.Error("nil ring")
	}
	if id, ok := r.Turn(); id != 0 || ok {
		t.Error("Turn", id, ok)
	}
	holds(t, r)
}

// TestAgainstSlice compares random calls with a ring that is a plain slice.
func TestAgainstSlice(t *testing.T) { // P29.1, P29.2
	rnd := rand.New(rand.NewSource(3))
	r := ring.New()
	var l []int
	for range 20000 {
		id := rnd.Intn(7) - 2
		at := slices.Index(l, id)
		switch rnd.Intn(7) {
		case 0, 1, 2:
			if r.Add(id) != (at < 0) {
				t.Fatal("Add", id)
			}
			if at < 0 {
				l = append(l, id)
			}
		case 3:
			if r.Drop(id) != (at >= 0) {
				t.Fatal("Drop", id)
			}
			if at >= 0 {
				l = slices.Delete(l, at, at+1)
			}
		case 4, 5:
			got, ok := r.Turn()
			if ok != (len(l) > 0) || ok && got != l[0] {
				t.Fatal("Turn", got, ok)
			}
			if ok {
				l = append(l[1:], l[0])
			}
		case 6:
			if rnd.Intn(20) == 0 {
				r.Clear()
				l = nil
			}
			r = r.Copy()
		}
		if r.Has(id) != slices.Contains(l, id) {
			t.Fatal("Has", id)
		}
		if holds(t, r, l...); t.Failed() {
			t.FailNow()
		}
	}
}
