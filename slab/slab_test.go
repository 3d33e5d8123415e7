package slab_test

import (
	"math"
	"math/rand"
	"testing"

	"flashlock/api"
	"flashlock/slab"
)

func take(t *testing.T, s *slab.Slab, want slab.Handle) {
	t.Helper()
	if got, ok := s.Take(); got != want || !ok {
		t.Errorf("Take() = %v, %t, want %v", got, ok, want)
	}
}

func TestNew(t *testing.T) { // P6.1
	for _, n := range []int{math.MinInt, -1, 0, api.MaxSlots + 1, math.MaxInt} {
		if slab.New(n) != nil {
			t.Errorf("New(%d) is not nil", n)
		}
	}
	for _, n := range []int{1, 2, api.MaxSlots} {
		s := slab.New(n)
		if s == nil || s.Left() != n {
			t.Fatalf("New(%d)", n)
		}
		for slot := range n {
			take(t, s, slab.Handle{Slot: slot})
		}
		if h, ok := s.Take(); h != (slab.Handle{}) || ok || s.Left() != 0 {
			t.Errorf("Take of a full slab = %v, %t", h, ok)
		}
	}
}

func TestExample(t *testing.T) { // P6.1
	s := slab.New(2)
	take(t, s, slab.Handle{Slot: 0, Turn: 0})
	take(t, s, slab.Handle{Slot: 1, Turn: 0})
	if !s.Give(slab.Handle{Slot: 0, Turn: 0}) {
		t.Error("Give({0 0})")
	}
	take(t, s, slab.Handle{Slot: 0, Turn: 1})
}

func TestFreeSlotsAreAStack(t *testing.T) { // P6.1
	s := slab.New(4)
	for slot := range 3 {
		take(t, s, slab.Handle{Slot: slot})
	}
	for _, slot := range []int{1, 0, 2} {
		if !s.Give(slab.Handle{Slot: slot}) {
			t.Errorf("Give of slot %d", slot)
		}
	}
	for _, slot := range []int{2, 0, 1} {
		take(t, s, slab.Handle{Slot: slot, Turn: 1})
	}
	take(t, s, slab.Handle{Slot: 3})
}

func TestGiveOfOtherHandles(t *testing.T) { // P6.1
	s := slab.New(2)
	take(t, s, slab.Handle{})
	for _, h := range []slab.Handle{{0, 1}, {0, -1}, {1, 0}, {2, 0}, {-1, 0}, {math.MaxInt, 0}, {math.MinInt, math.MinInt}} {
		if s.Give(h) || s.Live(h) {
			t.Errorf("%v is taken for live", h)
		}
	}
	if s.Left() != 1 || !s.Live(slab.Handle{}) {
		t.Error("a failed Give changed the slab")
	}
	if !s.Give(slab.Handle{}) || s.Give(slab.Handle{}) || s.Give(slab.Handle{Turn: 1}) {
		t.Error("Give once")
	}
	take(t, s, slab.Handle{Turn: 1})
}

func TestLiveOfAndLeft(t *testing.T) { // P6.2
	s := slab.New(3)
	if _, ok := s.Of(0); ok || s.Live(slab.Handle{}) {
		t.Error("a free slot has no handle")
	}
	a, _ := s.Take()
	b, _ := s.Take()
	if s.Left() != 1 || !s.Live(a) || !s.Live(b) {
		t.Error("after two Takes")
	}
	if h, ok := s.Of(1); h != b || !ok {
		t.Error("Of(1)", h, ok)
	}
	s.Give(a)
	for _, slot := range []int{0, 2, 3, -1, math.MaxInt, math.MinInt} {
		if h, ok := s.Of(slot); h != (slab.Handle{}) || ok {
			t.Errorf("Of(%d) = %v, %t", slot, h, ok)
		}
	}
	if s.Live(a) || !s.Live(b) || s.Left() != 2 {
		t.Error("after Give")
	}
	c, _ := s.Take()
	if h, ok := s.Of(0); h != c || h != (slab.Handle{Turn: 1}) || !ok {
		t.Error("Of the slot's next turn", h, ok)
	}
}

func TestCopyIsIndependent(t *testing.T) { // P6.2
	s := slab.New(3)
	a, _ := s.Take()
	s.Take()
	s.Give(a)
	c := s.Copy()
	if c.Left() != s.Left() || c.Live(a) || !c.Live(slab.Handle{Slot: 1}) {
		t.Error("the copy is in another state")
	}
	take(t, s, slab.Handle{Slot: 0, Turn: 1})
	take(t, s, slab.Handle{Slot: 2})
	s.Give(slab.Handle{Slot: 1})
	if c.Left() != 2 || !c.Live(slab.Handle{Slot: 1}) || c.Live(slab.Handle{Slot: 2}) {
		t.Error("the copy changed with the slab")
	}
	take(t, c, slab.Handle{Slot: 0, Turn: 1})
	c.Give(slab.Handle{Slot: 0, Turn: 1})
	if !s.Live(slab.Handle{Slot: 0, Turn: 1}) || s.Left() != 1 {
		t.Error("the slab changed with the copy")
	}
	take(t, c, slab.Handle{Slot: 0, Turn: 2})
	take(t, c, slab.Handle{Slot: 2})
	take(t, s, slab.Handle{Slot: 1, Turn: 1})
}

func TestNil(t *testing.T) { // P6.2
	var s *slab.Slab
	if h, ok := s.Take(); h != (slab.Handle{}) || ok {
		t.Error("Take", h, ok)
	}
	if h, ok := s.Of(0); h != (slab.Handle{}) || ok {
		t.Error("Of", h, ok)
	}
	if s.Give(slab.Handle{}) || s.Live(slab.Handle{}) || s.Left() != 0 || s.Copy() != nil {
		t.Error("nil slab")
	}
}

// TestHandlesAreUnique takes and gives at random, with a stack of its own beside the slab.
func TestHandlesAreUnique(t *testing.T) { // P6.1, P6.3
	const n = 5
	r := rand.New(rand.NewSource(1))
	s := slab.New(n)
	stack := []int{4, 3, 2, 1, 0}
	var turns [n]int
	var live, given []slab.Handle
	seen := map[slab.Handle]bool{}
	for range 5000 {
		if r.Intn(2) == 0 {
			h, ok := s.Take()
			if ok != (len(stack) > 0) {
				t.Fatal("Take", h, ok)
			}
			if !ok {
				continue
			}
			top := stack[len(stack)-1]
			stack = stack[:len(stack)-1]
			if h != (slab.Handle{Slot: top, Turn: turns[top]}) || seen[h] {
				t.Fatal("Take", h)
			}
			seen[h] = true
			live = append(live, h)
		} else if len(live) > 0 {
			i := r.Intn(len(live))
			h := live[i]
			live = append(live[:i], live[i+1:]...)
			if !s.Live(h) || !s.Give(h) || s.Give(h) {
				t.Fatal("Give", h)
			}
			turns[h.Slot]++
			stack = append(stack, h.Slot)
			given = append(given, h)
		}
		if s.Left() != len(stack) {
			t.Fatal("Left", s.Left(), len(stack))
		}
		if len(given) > 0 && s.Live(given[r.Intn(len(given))]) {
			t.Fatal("a handle that was given back is live")
		}
	}
}
