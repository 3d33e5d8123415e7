package timer_test

import (
	"cmp"
	"maps"
	"math"
	"math/rand"
	"slices"
	"testing"

	"flashlock/timer"
)

func of(times map[int]int) *timer.Timer {
	q := timer.New()
	for _, id := range slices.Sorted(maps.Keys(times)) {
		q.Set(id, times[id])
	}
	return q
}

func next(t *testing.T, q *timer.Timer, id, at int, ok bool) {
	t.Helper()
	if gotID, gotAt, gotOK := q.Next(); gotID != id || gotAt != at || gotOK != ok {
		t.Errorf("Next() = %d, %d, %t, want %d, %d, %t", gotID, gotAt, gotOK, id, at, ok)
	}
}

func due(t *testing.T, q *timer.Timer, now int, want ...int) {
	t.Helper()
	if got := q.Due(now); !slices.Equal(got, want) {
		t.Errorf("Due(%d) = %v, want %v", now, got, want)
	}
}

func TestEmpty(t *testing.T) { // P32.1, P32.2
	q := timer.New()
	if at, ok := q.At(0); at != 0 || ok || q.Stop(0) || q.Len() != 0 {
		t.Error("an empty queue")
	}
	next(t, q, 0, 0, false)
	due(t, q, math.MaxInt)
}

func TestExample(t *testing.T) { // P32.2
	q := of(map[int]int{1: 5, 2: 3, 3: 5})
	next(t, q, 2, 3, true)
	due(t, q, 5, 2, 1, 3)
	if q.Len() != 0 {
		t.Error("Len", q.Len())
	}
}

func TestSetReplaces(t *testing.T) { // P32.1
	q := of(map[int]int{1: 5, 2: 3, 3: 9})
	q.Set(2, 20)
	if at, ok := q.At(2); at != 20 || !ok || q.Len() != 3 {
		t.Error("At(2)", at, ok, q.Len())
	}
	next(t, q, 1, 5, true)
	q.Set(3, -1)
	next(t, q, 3, -1, true)
	due(t, q, 20, 3, 1, 2)
}

func TestStop(t *testing.T) { // P32.1
	q := of(map[int]int{1: 5, 2: 3, 3: 9, 4: 4})
	if !q.Stop(2) || q.Stop(2) || q.Stop(7) || q.Stop(-1) || q.Len() != 3 {
		t.Error("Stop", q.Len())
	}
	if at, ok := q.At(2); at != 0 || ok {
		t.Error("At of a time that was removed", at, ok)
	}
	next(t, q, 4, 4, true)
	if !q.Stop(3) {
		t.Error("Stop of the last")
	}
	q.Set(2, 6)
	due(t, q, 9, 4, 1, 2)
	if q.Stop(1) || q.Len() != 0 {
		t.Error("Stop of a time that was due")
	}
}

func TestAnyNumbers(t *testing.T) { // P32.1, P32.2
	q := of(map[int]int{math.MinInt: math.MaxInt, 0: 0, math.MaxInt: math.MinInt, -4: 0})
	if at, ok := q.At(math.MinInt); at != math.MaxInt || !ok {
		t.Error("At", at, ok)
	}
	if at, ok := q.At(0); at != 0 || !ok {
		t.Error("At a time of zero", at, ok)
	}
	next(t, q, math.MaxInt, math.MinInt, true)
	due(t, q, math.MinInt, math.MaxInt)
	due(t, q, -1)
	due(t, q, 0, -4, 0)
	due(t, q, math.MaxInt-1)
	due(t, q, math.MaxInt, math.MinInt)
}

func TestNextTakesTheSmallestID(t *testing.T) { // P32.2
	q := timer.New()
	for _, id := range []int{9, 4, 7, 2, 8} {
		q.Set(id, 6)
	}
	next(t, q, 2, 6, true)
	next(t, q, 2, 6, true)
	q.Stop(2)
	next(t, q, 4, 6, true)
	due(t, q, 5)
	due(t, q, 6, 4, 7, 8, 9)
}

func TestNil(t *testing.T) { // P32.2
	var q *timer.Timer
	q.Set(1, 1)
	if at, ok := q.At(1); at != 0 || ok || q.Stop(1) || q.Len() != 0 {
		t.Error("nil queue")
	}
	next(t, q, 0, 0, false)
	due(t, q, math.MaxInt)
}

// ordered returns the ids of the times that are not after now, as Due has to.
func ordered(times map[int]int, now int) []int {
	ids := slices.DeleteFunc(slices.Sorted(maps.Keys(times)), func(id int) bool { return times[id] > now })
	slices.SortStableFunc(ids, func(a, b int) int { return cmp.Compare(times[a], times[b]) })
	return ids
}

// TestAgainstMap compares random calls with a plain map.
func TestAgainstMap(t *testing.T) { // P32.1, P32.2
	r := rand.New(rand.NewSource(5))
	q := timer.New()
	times := map[int]int{}
	for range 30000 {
		id, at := r.Intn(12)-3, r.Intn(20)-5
		switch r.Intn(6) {
		case 0, 1, 2, 3:
			q.Set(id, at)
			times[id] = at
		case 4:
			_, ok := times[id]
			if q.Stop(id) != ok {
				t.Fatal("Stop", id)
			}
			delete(times, id)
		case 5:
			want := ordered(times, at-5)
			due(t, q, at-5, want...)
			for _, id := range want {
				delete(times, id)
			}
		}
		want, wantOK := times[id]
		if got, ok := q.At(id); got != want || ok != wantOK || q.Len() != len(times) {
			t.Fatal("At", id, got, ok, q.Len())
		}
		if all := ordered(times, math.MaxInt); len(all) > 0 {
			next(t, q, all[0], times[all[0]], true)
		} else {
			next(t, q, 0, 0, false)
		}
		if t.Failed() {
			t.FailNow()
		}
	}
}

func TestStepsOfTime(t *testing.T) { // P32.3
	r := rand.New(rand.NewSource(6))
	for range 200 {
		times := map[int]int{}
		for range r.Intn(20) {
			times[r.Intn(30)] = r.Intn(50)
		}
		at, inSteps := of(times), of(times)
		var got []int
		for now := 0; now < 50; now += 1 + r.Intn(9) {
			for _, id := range inSteps.Due(now) {
				if times[id] > now {
					t.Fatalf("%d is returned at %d, before its time %d", id, now, times[id])
				}
				got = append(got, id)
			}
		}
		got = append(got, inSteps.Due(50)...)
		if want := at.Due(50); !slices.Equal(got, want) || len(want) != len(times) {
			t.Fatalf("in steps %v, at once %v", got, want)
		}
		due(t, at, math.MaxInt)
		due(t, inSteps, math.MaxInt)
	}
}
