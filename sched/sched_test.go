package sched_test

import (
	"math"
	"math/rand"
	"slices"
	"testing"

	"flashlock/api"
	"flashlock/config"
	"flashlock/cutoff"
	"flashlock/gauge"
	"flashlock/idle"
	"flashlock/lend"
	"flashlock/sched"
)

var wild = []int{math.MinInt, math.MinInt32, -1, 0, 1, 2, 3, 4, 7, 8, 9, 2048, 2049, 65535, 65536, 1 << 60, math.MaxInt}

// of returns a class of priority 0 that is over its limit for long after it sent.
func of(id, parent int, share float64) api.Class {
	return api.Class{ID: id, Parent: parent, Share: share, Quantum: 100, Limit: 10, Weight: 1, MinIdle: -1 << 40}
}

func compile(t *testing.T, rule, leaf int, l ...api.Class) *config.Set {
	t.Helper()
	s, e := config.Compile(api.Config{Tpb: 10, Rule: rule, Default: leaf, Classes: l})
	if e != api.OK {
		t.Fatal("Compile:", e)
	}
	return s
}

// family is the root 1 with 2 and 3 below it, and 4 and 5 below 3.
// After leaf 4 sent 104 bytes at time 0, 1 is over its limit until 1560, 3 until 3120, and 4 until 6240.
func family(t *testing.T, rule int) *config.Set {
	return compile(t, rule, 2, relatives()...)
}

func relatives() []api.Class {
	return []api.Class{of(1, 0, 1), of(2, 1, 0.25), of(3, 1, 0.5), of(4, 3, 0.25), of(5, 3, 0.125)}
}

// tired returns a scheduler of family after leaf 4 sent 104 bytes at time 0.
func tired(t *testing.T, rule int) *sched.Sched {
	t.Helper()
	x := sched.New(family(t, rule), 0)
	if !x.Gone(4, 4, 104, 0, false) {
		t.Fatal("Gone = false")
	}
	for _, at := range []struct {
		now   int
		overs []int
	}{{0, []int{1, 3, 4}}, {1559, []int{1, 3, 4}}, {1560, []int{3, 4}}, {3119, []int{3, 4}}, {3120, []int{4}}, {6239, []int{4}}, {6240, nil}} {
		if got := x.Overs(at.now); !slices.Equal(got, at.overs) {
			t.Fatalf("Overs(%d) = %v", at.now, got)
		}
	}
	return x
}

// joined returns a scheduler of that set after packets came to those leaves at time 0.
func joined(t *testing.T, s *config.Set, leaves ...int) *sched.Sched {
	t.Helper()
	x := sched.New(s, 0)
	for _, leaf := range leaves {
		comes(t, x, leaf, 0)
	}
	return x
}

func comes(t *testing.T, x *sched.Sched, leaf, now int) {
	t.Helper()
	if !x.Come(leaf, now) {
		t.Errorf("Come(%d, %d) = false", leaf, now)
	}
}

func hasTop(t *testing.T, x *sched.Sched, want int) {
	t.Helper()
	if got := x.Top(); got != want {
		t.Errorf("Top = %d, not %d", got, want)
	}
}

func hasOrder(t *testing.T, x *sched.Sched, prio int, want ...int) {
	t.Helper()
	if got := x.Order(prio); !slices.Equal(got, want) {
		t.Errorf("Order(%d) = %v, not %v", prio, got, want)
	}
}

func hasCredit(t *testing.T, x *sched.Sched, id, want int) {
	t.Helper()
	if got, ok := x.Credit(id); got != want || !ok {
		t.Errorf("Credit(%d) = %d, %v, not %d", id, got, ok, want)
	}
}

func picks(t *testing.T, x *sched.Sched, now int, busy []int, leaf, lender int) {
	t.Helper()
	if a, b, ok := x.Pick(now, busy); a != leaf || b != lender || !ok {
		t.Errorf("Pick(%d, %v) = %d, %d, %v, not %d, %d", now, busy, a, b, ok, leaf, lender)
	}
}

func picksNone(t *testing.T, x *sched.Sched, now int, busy ...int) {
	t.Helper()
	if a, b, ok := x.Pick(now, busy); a != 0 || b != 0 || ok {
		t.Errorf("Pick(%d, %v) = %d, %d, %v", now, busy, a, b, ok)
	}
}

// view is all that a scheduler of classes up to 12 shows without a change.
type view struct {
	top     int
	states  [13]idle.State
	known   [13]bool
	credits [13]int
	has     [13]bool
	orders  [api.MaxPrio][13]int
}

func look(x *sched.Sched) view {
	v := view{top: x.Top()}
	for id := range 13 {
		v.states[id], v.known[id] = x.State(id)
		v.credits[id], v.has[id] = x.Credit(id)
	}
	for prio := range v.orders {
		copy(v.orders[prio][:], x.Order(prio))
	}
	return v
}

func TestExample(t *testing.T) { // P35.1
	x := joined(t, compile(t, 0, 1, of(1, 0, 1)), 1)
	picks(t, x, 0, []int{1}, 1, 1)
}

func TestNew(t *testing.T) { // P35.1
	for _, now := range []int{0, 7, -3, 1 << 60, math.MaxInt} {
		s := family(t, 1)
		x, g := sched.New(s, now), gauge.New(s, now)
		hasTop(t, x, cutoff.None)
		for _, id := range []int{0, 1, 2, 3, 4, 5, 6, -1} {
			want, known := g.State(id)
			if got, ok := x.State(id); got != want || ok != known {
				t.Errorf("State(%d) = %v, %v", id, got, ok)
			}
			if n, ok := x.Credit(id); n != 0 || ok {
				t.Errorf("Credit(%d) = %d, %v", id, n, ok)
			}
		}
		for prio := range api.MaxPrio {
			hasOrder(t, x, prio)
		}
		picksNone(t, x, now, 1, 2, 3, 4, 5)
	}
	if sched.New(nil, 5) != nil {
		t.Error("a scheduler of no set")
	}
}

func TestComeTop(t *testing.T) { // P35.1
	x := tired(t, 1)
	hasTop(t, x, 9)
	comes(t, x, 4, 0) // no lender that is not over its limit
	hasTop(t, x, 9)
	comes(t, x, 4, 1559)
	hasTop(t, x, 9)
	comes(t, x, 4, 1560) // the root, of level 3
	hasTop(t, x, 3)
	comes(t, x, 4, 3119)
	hasTop(t, x, 3)
	comes(t, x, 4, 3120) // 3, of level 2
	hasTop(t, x, 2)
	comes(t, x, 4, 1560) // not raised again
	hasTop(t, x, 2)
	comes(t, x, 4, 6239)
	hasTop(t, x, 2)
	comes(t, x, 4, 6240) // not over its limit
	hasTop(t, x, 1)
	comes(t, x, 4, 6239)
	hasTop(t, x, 1)
	x = tired(t, 1)
	comes(t, x, 5, 0)
	hasTop(t, x, 1)
	x = tired(t, 0)
	comes(t, x, 2, 0)
	hasTop(t, x, 1)
}

func TestComeLenders(t *testing.T) { // P35.1: only from the classes that lend to the leaf
	for i, want := range []int{9, 9, 9, 3} {
		l := relatives()
		switch i {
		case 0:
			l[3].Bounded = true
		case 1:
			l[3].Isolated = true
		case 2:
			l[2].Bounded = true // 3 lends, and is over its limit at 1560
		}
		x := sched.New(compile(t, 2, 2, l...), 0)
		x.Gone(4, 4, 104, 0, false)
		comes(t, x, 4, 1560)
		hasTop(t, x, want)
	}
	l := relatives()
	l[2].Bounded = true
	x := sched.New(compile(t, 2, 2, l...), 0)
	x.Gone(4, 4, 104, 0, false)
	comes(t, x, 4, 3120)
	hasTop(t, x, 2)
	// A root that is the only leaf has no lender.
	x = sched.New(compile(t, 1, 1, of(1, 0, 1)), 0)
	x.Gone(1, 1, 100, 0, false)
	comes(t, x, 1, 1)
	hasTop(t, x, 9)
}

func TestComeJoins(t *testing.T) { // P35.1
	l := relatives()
	l[1].Prio, l[3].Prio, l[3].Quantum, l[4].Quantum = 7, 2, 1, 65536
	l = append(l, of(6, 3, 0.01))
	l[5].Prio = 2
	x := joined(t, compile(t, 0, 2, l...), 6, 4)
	hasOrder(t, x, 2, 6, 4)
	comes(t, x, 2, 0)
	comes(t, x, 5, 0)
	hasOrder(t, x, 7, 2)
	hasOrder(t, x, 0, 5)
	for _, id := range []int{2, 4, 5, 6} {
		hasCredit(t, x, id, 0)
	}
	// Whoever has joined keeps place and credit.
	picks(t, x, 0, []int{6, 4}, 6, 6)
	comes(t, x, 6, 0)
	comes(t, x, 4, 0)
	hasOrder(t, x, 2, 4, 6)
	hasCredit(t, x, 6, 100)
	hasCredit(t, x, 4, 0)
	// Each credit is bounded by the leaf's own quantum.
	picks(t, x, 0, []int{4}, 4, 4)
	hasCredit(t, x, 4, 1)
	picks(t, x, 0, []int{5}, 5, 5)
	hasCredit(t, x, 5, 65536)
}

func TestComeNoLeaf(t *testing.T) { // P35.1
	x := joined(t, family(t, 1), 4)
	x.Gone(4, 4, 104, 0, false)
	before := look(x)
	for _, id := range []int{1, 3, 0, 6, -1, 65536, math.MinInt, math.MaxInt} {
		if x.Come(id, 5000) {
			t.Errorf("Come(%d) = true", id)
		}
		if look(x) != before {
			t.Errorf("Come(%d) has an effect", id)
		}
	}
}

func TestAble(t *testing.T) { // P35.1
	for rule := range 3 {
		s := family(t, rule)
		for top := range 4 {
			x := tired(t, rule)
			x.Gone(5, 5, 30, 0, false)
			switch top {
			case 1:
				comes(t, x, 2, 0)
			case 2:
				comes(t, x, 4, 5000)
			case 3:
				comes(t, x, 4, 2000)
			}
			for now := 0; now < 8000; now += 250 {
				for _, busy := range [][]int{nil, {2}, {4}, {5}, {5, 4}, {4, 2, 4}, {2, 4, 5}, {1, 3, 9, -4, 5}} {
					want := lend.Able(s, lend.State{Over: x.Overs(now), Busy: busy, Top: x.Top()})
					if got := x.Able(now, busy); !slices.Equal(got, want) {
						t.Errorf("Able(%d, %v) = %v, not %v", now, busy, got, want)
					}
				}
			}
		}
	}
	x := tired(t, 1)
	for _, at := range []struct{ now, top, count int }{{0, 9, 0}, {1560, 3, 1}, {3120, 2, 1}, {2000, 2, 0}, {6240, 1, 1}, {5000, 1, 0}} {
		comes(t, x, 4, at.now)
		if got := x.Able(at.now, []int{4}); x.Top() != at.top || len(got) != at.count {
			t.Errorf("at %d: Top %d, Able %v", at.now, x.Top(), got)
		}
	}
}

func TestPick(t *testing.T) { // P35.1
	l := relatives()
	l[1].Prio = 1
	x := joined(t, compile(t, 0, 2, l...), 2, 5, 4)
	picks(t, x, 0, []int{2, 4, 5}, 5, 5)
	picks(t, x, 0, []int{2, 4, 5}, 4, 4)
	picks(t, x, 0, []int{2, 4, 5}, 5, 5)
	picks(t, x, 0, []int{5, 2}, 5, 5)
	picks(t, x, 0, []int{2}, 2, 2) // the only one that is busy
	picks(t, x, 0, []int{3, 1, 2, 2, 77}, 2, 2)
	picksNone(t, x, 0)
	picksNone(t, x, 0, 1, 3, 0, 6, -1)
	// By the allowance of others: 3 first, and the root while 3 is over its limit.
	x = tired(t, 0)
	comes(t, x, 4, 0)
	picksNone(t, x, 0, 4)
	picksNone(t, x, 1559, 4)
	picks(t, x, 1560, []int{4}, 4, 1)
	picks(t, x, 3119, []int{4}, 4, 1)
	picks(t, x, 3120, []int{4}, 4, 3)
	picks(t, x, 6239, []int{4}, 4, 3)
	picks(t, x, 6240, []int{4}, 4, 4)
	comes(t, x, 2, 0)
	picks(t, x, 0, []int{4, 2}, 2, 2)
}

func TestPickNotJoined(t *testing.T) { // P35.1: no turn selects a leaf without turns
	x := joined(t, family(t, 0), 4)
	if got := x.Able(0, []int{2, 5}); !slices.Equal(got, []int{2, 5}) {
		t.Error("Able =", got)
	}
	before := look(x)
	picksNone(t, x, 0, 2, 5)
	if look(x) != before {
		t.Error("Pick without a leaf has an effect")
	}
	picks(t, x, 0, []int{2, 4, 5}, 4, 4)
}

func TestPickByRules(t *testing.T) { // P35.1
	// At 2000, 4 and 3 are over their limits.
	for rule, lender := range []int{1, 1, 0} {
		x := tired(t, rule)
		comes(t, x, 4, 2000)
		comes(t, x, 5, 0)
		if rule == 1 {
			hasTop(t, x, 1)
			picksNone(t, x, 2000, 4)
			x = tired(t, rule)
			comes(t, x, 4, 2000)
			hasTop(t, x, 3)
		}
		if lender == 0 {
			// 5 is not over its limit, of a lower level than the root, and busy.
			picks(t, x, 2000, []int{4}, 4, 1)
			if got := x.Able(2000, []int{4, 5}); !slices.Equal(got, []int{5}) {
				t.Error("formally, Able =", got)
			}
			picks(t, x, 2000, []int{4, 5}, 5, 5)
			continue
		}
		picks(t, x, 2000, []int{4}, 4, lender)
	}
}

func TestGone(t *testing.T) { // P35.2
	s := family(t, 1)
	x, g := joined(t, s, 4, 5), gauge.New(s, 0)
	hasTop(t, x, 1)
	picks(t, x, 0, []int{4, 5}, 4, 4)
	if !x.Gone(4, 4, 30, 10, false) {
		t.Error("Gone = false")
	}
	g.Sent(4, 30, 10)
	for _, id := range s.IDs() {
		want, _ := g.State(id)
		if got, ok := x.State(id); got != want || !ok {
			t.Errorf("State(%d) = %v, not %v", id, got, want)
		}
	}
	hasCredit(t, x, 4, 70)
	hasOrder(t, x, 0, 5, 4)
	hasTop(t, x, 9) // 4 is over its limit now
	if !x.Gone(5, 5, 2048, 10, true) {
		t.Error("Gone = false")
	}
	hasOrder(t, x, 0, 4)
	if n, ok := x.Credit(5); n != 0 || ok {
		t.Error("who left has credit", n)
	}
	// Sizes beyond a packet's count as wrr and gauge have them.
	x.Gone(4, 4, math.MaxInt, 20, false)
	hasCredit(t, x, 4, 70-2048)
	x.Gone(4, 4, -5, 20, false)
	hasCredit(t, x, 4, 70-2048)
	comes(t, x, 5, 20)
	hasOrder(t, x, 0, 4, 5)
	hasCredit(t, x, 5, 0)
}

func TestGoneTop(t *testing.T) { // P35.2
	start := func(top int) *sched.Sched {
		x := tired(t, 1)
		switch top {
		case 1:
			comes(t, x, 2, 0)
		case 2:
			comes(t, x, 4, 3120)
		case 3:
			comes(t, x, 4, 1560)
		}
		hasTop(t, x, top)
		return x
	}
	for _, c := range []struct {
		top, leaf, lender, size, now int
		empty                        bool
		want                         int
	}{
		{1, 2, 2, 1, 9, false, 9},     // the lender is over its limit now
		{1, 2, 2, 1, 99999, false, 1}, // it is not, after a long pause
		{1, 2, 2, 1, 99999, true, 9},
		{1, 2, 3, 0, 9, false, 1}, // of a level above the top
		{1, 2, 1, 0, 9, true, 1},
		{1, 2, 5, 1, 9, false, 1}, // not over its limit, for it did not send
		{1, 2, 5, 1, 9, true, 9},
		{2, 2, 3, 1, 3119, false, 9},
		{2, 2, 3, 1, 3120, false, 2},
		{2, 2, 3, 1, 3120, true, 9},
		{2, 2, 1, 100, 0, true, 2},
		{3, 4, 1, 1, 2000, false, 3},
		{3, 4, 1, 200, 2000, false, 9}, // by this packet
		{3, 4, 1, 1, 2000, true, 9},
		{3, 2, 5, 1, 2000, false, 3},
		{9, 2, 5, 1, 2000, false, 9},
		{9, 2, 2, 1, 2000, true, 9},
	} {
		x := start(c.top)
		if !x.Gone(c.leaf, c.lender, c.size, c.now, c.empty) || x.Top() != c.want {
			t.Errorf("%+v: Top = %d", c, x.Top())
		}
	}
}

func TestGoneWrong(t *testing.T) { // P35.2
	x := joined(t, family(t, 1), 4, 2)
	x.Gone(4, 4, 104, 0, false)
	comes(t, x, 2, 0)
	before := look(x)
	for _, id := range []int{1, 3, 0, 6, -1, 65536, math.MinInt, math.MaxInt} {
		for _, lender := range []int{2, 1, 0, 7} {
			if x.Gone(id, lender, 10, 5, true) || look(x) != before {
				t.Errorf("Gone(%d, %d)", id, lender)
			}
		}
	}
	for _, lender := range []int{0, 6, -1, 65536, math.MinInt, math.MaxInt} {
		if x.Gone(4, lender, 10, 5, true) || look(x) != before {
			t.Errorf("Gone(4, %d)", lender)
		}
	}
	// Each class may be the lender, whether it is above the leaf or not; a leaf without turns may have sent.
	for _, lender := range []int{1, 2, 3, 4, 5} {
		for _, empty := range []bool{false, true} {
			if !x.Copy().Gone(5, lender, 10, 5, empty) || !x.Copy().Gone(4, lender, 10, 5, empty) {
				t.Errorf("Gone by the allowance of %d", lender)
			}
		}
	}
	y := x.Copy()
	y.Gone(5, 5, 10, 5, true)
	hasOrder(t, y, 0, 4, 2)
	if y.Gone(5, 5, 10, 5, false); len(y.Order(0)) != 2 {
		t.Error("who sent has joined")
	}
}

func TestWake(t *testing.T) { // P35.2
	x := tired(t, 0)
	x.Gone(2, 2, 40, 0, false) // until 2400
	x.Gone(5, 5, 16, 0, false) // until 1920
	wakes := func(now, want int, busy ...int) {
		t.Helper()
		if got, ok := x.Wake(now, busy); got != want || ok != (want != 0) {
			t.Errorf("Wake(%d, %v) = %d, %v, not %d", now, busy, got, ok, want)
		}
	}
	wakes(0, 1920, 2, 4, 5)
	wakes(1919, 1920, 4, 5)
	wakes(1920, 2400, 2, 4, 5)
	wakes(1920, 0, 5)
	wakes(1920, 6240, 5, 4)
	wakes(2400, 6240, 2, 4, 5)
	wakes(6239, 6240, 2, 4, 5)
	wakes(6240, 0, 2, 4, 5)
	wakes(0, 6240, 4, 4, 4)
	wakes(0, 0)
	wakes(0, 0, 1, 3, 0, 6, -1, math.MaxInt) // over their limits or not, no leaves
	wakes(0, 6240, 1, 3, 4)
	// Before time 0, an Until of 0 is still to come.
	y := sched.New(family(t, 0), 0)
	if at, ok := y.Wake(-5, []int{2}); at != 0 || !ok {
		t.Error("before time 0:", at, ok)
	}
	if at, ok := y.Wake(0, []int{2}); at != 0 || ok {
		t.Error("never sent:", at, ok)
	}
}

// nephews is another set: 3 is a leaf, 4 and 5 are elsewhere, 7 and 8 are new, 2 is gone.
func nephews(t *testing.T) *config.Set {
	l := []api.Class{of(1, 0, 1), of(3, 1, 0.125), of(6, 1, 0.5), of(4, 6, 0.125), of(5, 1, 0.125), of(7, 6, 0.125), of(8, 1, 0.01)}
	l[3].Prio, l[3].Quantum = 5, 60
	l[4].Prio, l[6].Prio = 5, 5
	l[4].MinIdle = -3
	return compile(t, 2, 3, l...)
}

func TestCarry(t *testing.T) { // P35.3
	s, next := family(t, 1), nephews(t)
	x := joined(t, s, 5, 2, 4)
	picks(t, x, 0, []int{2, 4, 5}, 5, 5)
	x.Gone(5, 5, 40, 0, false)
	picks(t, x, 0, []int{2, 4, 5}, 2, 2)
	picks(t, x, 0, []int{2, 4, 5}, 4, 4)
	x.Gone(4, 1, 300, 0, false)
	comes(t, x, 2, 0)
	hasOrder(t, x, 0, 5, 2, 4)
	hasCredit(t, x, 5, 60)
	hasCredit(t, x, 4, -200)
	before := look(x)
	y := x.Carry(next, 70, []int{8, 4, 7, 5, 3, 4, 2, 1, 6, -9})
	hasOrder(t, y, 5, 5, 4, 8) // 5 and 4 stay in their order, 8 comes
	hasOrder(t, y, 0, 3, 7)    // both come, in increasing order
	hasCredit(t, y, 5, 60)
	hasCredit(t, y, 4, -200)
	for _, id := range []int{3, 7, 8} {
		hasCredit(t, y, id, 0)
	}
	for _, id := range []int{1, 2, 6} {
		if n, ok := y.Credit(id); n != 0 || ok {
			t.Errorf("Credit(%d) = %d, %v", id, n, ok)
		}
	}
	hasTop(t, y, 1)
	g := gauge.New(s, 0)
	g.Sent(5, 40, 0)
	g.Sent(4, 300, 0)
	g = g.Carry(next, 70)
	for id := range 10 {
		want, known := g.State(id)
		if got, ok := y.State(id); got != want || ok != known {
			t.Errorf("State(%d) = %v, %v, not %v", id, got, ok, want)
		}
	}
	if !slices.Equal(y.Overs(100), g.Overs(100)) {
		t.Error("Overs =", y.Overs(100))
	}
	// Rule, leaves and parents are those of the new set.
	if y.Come(2, 0) || y.Come(6, 0) || y.Gone(3, 2, 1, 0, false) || !y.Copy().Come(3, 0) || !y.Copy().Gone(3, 6, 1, 0, false) {
		t.Error("the leaves are not those of the new set")
	}
	picks(t, y, 100, []int{3, 7, 8}, 7, 7) // 3 is over its limit, as it was, and so is 1
	if look(x) != before || !slices.Equal(x.Overs(0), []int{1, 3, 4, 5}) {
		t.Error("Carry changes what it carries over")
	}
	y.Gone(7, 7, 500, 100, false)
	if look(x) != before {
		t.Error("both are one")
	}
}

func TestCarryMembers(t *testing.T) { // P35.3
	x := joined(t, family(t, 1), 5, 2, 4)
	x.Gone(4, 4, 30, 0, false)
	// Members that are not busy go.
	y := x.Carry(family(t, 1), 0, []int{4})
	hasOrder(t, y, 0, 4)
	hasCredit(t, y, 4, -30)
	hasOrder(t, x.Carry(family(t, 1), 0, nil), 0)
	hasOrder(t, x.Carry(family(t, 1), 0, []int{4, 2}), 0, 2, 4)
	hasOrder(t, x.Carry(family(t, 1), 0, []int{5, 4, 2}), 0, 5, 2, 4)
	// A credit is bounded by the new quantum.
	z := joined(t, family(t, 1), 2)
	picks(t, z, 0, []int{2}, 2, 2)
	hasCredit(t, z, 2, 100)
	l := relatives()
	l[1].Quantum = 60
	hasCredit(t, z.Carry(compile(t, 1, 2, l...), 0, []int{2}), 2, 60)
	l[1].Quantum = 160
	w := z.Carry(compile(t, 1, 2, l...), 0, []int{2})
	hasCredit(t, w, 2, 100)
	w.Gone(2, 2, 90, 0, false)
	picks(t, w, 9999, []int{2}, 2, 2)
	hasCredit(t, w, 2, 160)
	// Members of several priorities that meet: those of the smaller one first.
	l[1].Prio, l[3].Prio, l[4].Prio = 3, 1, 3
	v := joined(t, compile(t, 1, 2, l...), 5, 2, 4)
	hasOrder(t, v.Carry(family(t, 1), 0, []int{2, 4, 5}), 0, 4, 5, 2)
	l[1].Prio, l[3].Prio, l[4].Prio = 0, 0, 0
	// Each priority counts, the last one, too.
	for prio := range api.MaxPrio {
		l[1].Prio = prio
		u := joined(t, compile(t, 1, 2, l...), 2)
		u.Gone(2, 2, 77, 0, false)
		u = u.Carry(compile(t, 1, 2, l...), 0, []int{2})
		hasOrder(t, u, prio, 2)
		hasCredit(t, u, 2, -77)
	}
	l[1].Prio = 0
	// The top level stays.
	for _, top := range []int{9, 3, 2, 1} {
		u := tired(t, 1)
		switch top {
		case 1:
			comes(t, u, 4, 6240)
		case 2:
			comes(t, u, 4, 3120)
		case 3:
			comes(t, u, 4, 1560)
		}
		hasTop(t, u.Carry(compile(t, 0, 2, l...), 7777, []int{4}), top)
	}
}

func TestCarryTwice(t *testing.T) { // P35.3: there and back, nothing is lost but what went
	x := joined(t, family(t, 1), 5, 2, 4)
	picks(t, x, 0, []int{4, 5}, 5, 5)
	x.Gone(5, 5, 99, 0, false)
	before := look(x)
	busy := []int{2, 4, 5}
	if y := x.Carry(family(t, 1), 900, busy); look(y) != before {
		t.Errorf("after Carry to the same set: %+v, not %+v", look(y), before)
	}
}

func TestCopy(t *testing.T) { // P35.3
	x := joined(t, family(t, 1), 5, 4)
	x.Gone(4, 4, 30, 0, false)
	before := look(x)
	y := x.Copy()
	if y == x || look(y) != before {
		t.Fatal("another state")
	}
	change := func(z *sched.Sched) {
		z.Come(2, 50)
		z.Pick(50, []int{5, 2})
		z.Gone(5, 5, 10, 50, true)
	}
	change(y)
	if look(x) != before {
		t.Error("a change of the copy shows in the original")
	}
	z := x.Copy()
	change(x)
	if look(z) != before {
		t.Error("a change of the original shows in the copy")
	}
	if look(x) != look(y) || look(x) == before {
		t.Error("the copy goes on otherwise")
	}
	picks(t, x, 9999999, []int{4, 5, 2}, 4, 4)
	if look(x) == look(y) {
		t.Error("Pick shows in the copy")
	}
	picks(t, y, 9999999, []int{4, 5, 2}, 4, 4)
	if look(x) != look(y) {
		t.Error("Pick of the copy")
	}
}

func TestNil(t *testing.T) { // P35.3
	var x *sched.Sched
	for _, n := range wild {
		if x.Come(n, n) || x.Gone(n, n, n, n, true) || x.Top() != 0 || len(x.Overs(n)) != 0 || len(x.Order(n)) != 0 || len(x.Able(n, []int{n})) != 0 {
			t.Error("a nil scheduler")
		}
		if at, ok := x.Wake(n, []int{n, 1}); at != 0 || ok {
			t.Error("Wake =", at, ok)
		}
		if state, ok := x.State(n); state != (idle.State{}) || ok {
			t.Error("State =", state, ok)
		}
		if credit, ok := x.Credit(n); credit != 0 || ok {
			t.Error("Credit =", credit, ok)
		}
		picksNone(t, x, n, n, 1)
		if x.Carry(family(t, 0), n, []int{2}) != nil || x.Carry(nil, n, nil) != nil || x.Copy() != nil {
			t.Error("Carry or Copy of nil")
		}
		if joined(t, family(t, 0), 2).Carry(nil, n, []int{2}) != nil {
			t.Error("Carry to no set")
		}
	}
}

func TestArguments(t *testing.T) { // P35.1 to P35.3: busy is not changed, its spare capacity included, and not kept
	long := []int{5, 4, 9, 2, 4, 77, 88}
	want := slices.Clone(long)
	busy := long[:5]
	x := joined(t, family(t, 2), 2, 4)
	x.Gone(4, 4, 10, 0, false)
	x.Able(5, busy)
	x.Pick(5, busy)
	x.Wake(5, busy)
	y := x.Carry(family(t, 2), 5, busy)
	if !slices.Equal(long, want) {
		t.Error("busy is changed:", long)
	}
	before := look(y)
	clear(long)
	if look(y) != before {
		t.Error("busy is kept")
	}
	// What is returned may be changed.
	clear(x.Order(0))
	clear(x.Overs(5))
	clear(x.Able(5, want))
	hasOrder(t, x, 0, 4, 2)
	if !slices.Equal(x.Overs(5), []int{1, 3, 4}) {
		t.Error("Overs =", x.Overs(5))
	}
}

// model is a scheduler made of lists and maps, with every rule written out.
type model struct {
	conf           api.Config
	set            *config.Set
	states         map[int]idle.State
	order          [api.MaxPrio][]int
	credit, quanta map[int]int
	top            int
}

func start(s *config.Set, now int) *model {
	m := &model{conf: s.Conf(), set: s, states: map[int]idle.State{}, credit: map[int]int{}, quanta: map[int]int{}, top: 9}
	for _, c := range m.conf.Classes {
		m.states[c.ID] = idle.New(c, now)
	}
	return m
}

func (m *model) class(id int) (api.Class, bool) {
	for _, c := range m.conf.Classes {
		if c.ID == id {
			return c, true
		}
	}
	return api.Class{}, false
}

func (m *model) path(id int) []int {
	var l []int
	for c, ok := m.class(id); ok; c, ok = m.class(c.Parent) {
		l = append(l, c.ID)
	}
	return l
}

func (m *model) level(id int) int {
	level := 0
	for _, c := range m.conf.Classes {
		if c.Parent == id {
			level = max(level, m.level(c.ID))
		}
	}
	return level + 1
}

func (m *model) leaf(id int) bool {
	_, ok := m.class(id)
	return ok && m.level(id) == 1
}

func (m *model) over(id, now int) bool { return idle.Over(m.states[id], now) }

func (m *model) lenders(leaf int) []int {
	var l []int
	for i, id := range m.path(leaf) {
		if i > 0 {
			l = append(l, id)
		}
		if c, _ := m.class(id); c.Bounded || c.Isolated {
			break
		}
	}
	return l
}

// wants reports whether a class below that level, and not apart from leaf, wants to send itself.
func (m *model) wants(level, leaf, now int, busy []int) bool {
	for _, c := range m.conf.Classes {
		apart := false
		for _, id := range m.path(c.ID) {
			above, _ := m.class(id)
			apart = apart || above.Isolated && !slices.Contains(m.path(leaf), id)
		}
		for _, b := range busy {
			if m.leaf(b) && slices.Contains(m.path(b), c.ID) && !m.over(c.ID, now) && m.level(c.ID) < level && !apart {
				return true
			}
		}
	}
	return false
}

func (m *model) lender(leaf, now int, busy []int) int {
	if !m.over(leaf, now) {
		return leaf
	}
	for _, id := range m.lenders(leaf) {
		permits := m.conf.Rule == 0 || m.conf.Rule == 1 && m.level(id) <= m.top || m.conf.Rule == 2 && !m.wants(m.level(id), leaf, now, busy)
		if !m.over(id, now) && permits {
			return id
		}
	}
	return 0
}

func (m *model) able(now int, busy []int) []int {
	var l []int
	for _, c := range m.conf.Classes {
		if slices.Contains(busy, c.ID) && m.leaf(c.ID) && m.lender(c.ID, now, busy) != 0 {
			l = append(l, c.ID)
		}
	}
	return l
}

func (m *model) has(id int) bool { return m.quanta[id] > 0 }

func (m *model) join(id int) {
	if c, _ := m.class(id); !m.has(id) {
		m.order[c.Prio] = append(m.order[c.Prio], id)
		m.credit[id], m.quanta[id] = 0, c.Quantum
	}
}

func (m *model) come(leaf, now int) bool {
	if !m.leaf(leaf) {
		return false
	}
	if !m.over(leaf, now) {
		m.top = 1
	} else {
		for _, id := range m.lenders(leaf) {
			if !m.over(id, now) {
				m.top = min(m.top, m.level(id))
				break
			}
		}
	}
	m.join(leaf)
	return true
}

func (m *model) pick(now int, busy []int) (int, int) {
	able := m.able(now, busy)
	for prio := range m.order {
		if !slices.ContainsFunc(m.order[prio], func(id int) bool { return slices.Contains(able, id) }) {
			continue
		}
		for {
			id := m.order[prio][0]
			m.order[prio] = append(slices.Clone(m.order[prio][1:]), id)
			if slices.Contains(able, id) {
				m.credit[id] = min(m.quanta[id], m.credit[id]+m.quanta[id])
				if m.credit[id] > 0 {
					return id, m.lender(id, now, busy)
				}
			}
		}
	}
	return 0, 0
}

func (m *model) gone(leaf, lender, size, now int, empty bool) bool {
	if _, ok := m.class(lender); !ok || !m.leaf(leaf) {
		return false
	}
	if m.has(leaf) {
		m.credit[leaf] = max(-65536, m.credit[leaf]-size)
	}
	for _, id := range m.path(leaf) {
		c, _ := m.class(id)
		m.states[id] = idle.Sent(m.states[id], c, m.set.Time(id, size), now)
	}
	if m.level(lender) <= m.top && (empty || m.over(lender, now)) {
		m.top = 9
	}
	if empty && m.has(leaf) {
		c, _ := m.class(leaf)
		m.order[c.Prio] = slices.DeleteFunc(slices.Clone(m.order[c.Prio]), func(id int) bool { return id == leaf })
		delete(m.credit, leaf)
		delete(m.quanta, leaf)
	}
	return true
}

func (m *model) wake(now int, busy []int) (int, bool) {
	first, ok := 0, false
	for _, id := range busy {
		if m.leaf(id) && m.over(id, now) && (!ok || m.states[id].Until < first) {
			first, ok = m.states[id].Until, true
		}
	}
	return first, ok
}

func (m *model) carry(s *config.Set, now int, busy []int) *model {
	next := start(s, now)
	next.top = m.top
	for id, state := range m.states {
		if c, ok := next.class(id); ok {
			next.states[id] = idle.Carry(state, c)
		}
	}
	for _, id := range slices.Concat(m.order[:]...) {
		if next.leaf(id) && slices.Contains(busy, id) {
			next.join(id)
			next.credit[id] = min(next.quanta[id], m.credit[id])
		}
	}
	for id := range 13 {
		if next.leaf(id) && slices.Contains(busy, id) {
			next.join(id)
		}
	}
	return next
}

// agrees compares all that both show.
func (m *model) agrees(t *testing.T, x *sched.Sched, now int, busy []int) {
	t.Helper()
	hasTop(t, x, m.top)
	var overs []int
	for id := range 14 {
		state, known := m.states[id]
		if got, ok := x.State(id); got != state || ok != known {
			t.Fatalf("State(%d) = %v, %v, not %v", id, got, ok, state)
		}
		if got, ok := x.Credit(id); got != m.credit[id] || ok != m.has(id) {
			t.Fatalf("Credit(%d) = %d, %v, not %d", id, got, ok, m.credit[id])
		}
		if known && m.over(id, now) {
			overs = append(overs, id)
		}
	}
	if got := x.Overs(now); !slices.Equal(got, overs) {
		t.Fatalf("Overs = %v, not %v", got, overs)
	}
	for prio := range m.order {
		hasOrder(t, x, prio, m.order[prio]...)
	}
	if got, want := x.Able(now, busy), m.able(now, busy); !slices.Equal(got, want) {
		t.Fatalf("Able(%d, %v) = %v, not %v", now, busy, got, want)
	}
	at, ok := x.Wake(now, busy)
	if want, is := m.wake(now, busy); at != want || ok != is {
		t.Fatalf("Wake(%d, %v) = %d, %v, not %d, %v", now, busy, at, ok, want, is)
	}
}

// random returns a set of random classes with IDs up to 12.
func random(t *testing.T, r *rand.Rand) *config.Set {
	var l []api.Class
	for i, id := range r.Perm(12)[:1+r.Intn(8)] {
		c := of(id+1, 0, 1)
		if i > 0 {
			c.Parent, c.Share = l[r.Intn(min(i, 4))].ID, math.Ldexp(1, -2*i)
		}
		c.Weight, c.MinIdle, c.MaxIdle = r.Intn(4), -r.Intn(50000), r.Intn(100)
		c.Prio, c.Quantum = r.Intn(3)*r.Intn(4), 1+r.Intn(300)
		c.Bounded, c.Isolated = r.Intn(8) == 0, r.Intn(8) == 0
		l = append(l, c)
	}
	leaf := l[len(l)-1].ID
	return compile(t, r.Intn(3), leaf, l...)
}

// mess returns a list of numbers that may be leaves.
func mess(r *rand.Rand) []int {
	var l []int
	for range r.Intn(12) {
		l = append(l, r.Intn(15)-1)
	}
	return l
}

func TestSecondImplementation(t *testing.T) { // P35.1, P35.2, P35.3
	r := rand.New(rand.NewSource(35))
	for range 60 {
		s := random(t, r)
		now := r.Intn(100)
		x, m := sched.New(s, now), start(s, now)
		for range 80 {
			now += r.Intn(3) * r.Intn(3000)
			busy := mess(r)
			switch r.Intn(16) {
			case 0:
				s = random(t, r)
				x, m = x.Carry(s, now, busy), m.carry(s, now, busy)
			case 1:
				x = x.Copy()
			case 2, 3, 4, 5:
				leaf, lender, size, empty := r.Intn(14), r.Intn(14), r.Intn(300), r.Intn(3) == 0
				if got, want := x.Gone(leaf, lender, size, now, empty), m.gone(leaf, lender, size, now, empty); got != want {
					t.Fatalf("Gone(%d, %d) = %v", leaf, lender, got)
				}
			case 6, 7, 8, 9:
				leaf, lender, ok := x.Pick(now, busy)
				if a, b := m.pick(now, busy); leaf != a || lender != b || ok != (a != 0) {
					t.Fatalf("Pick(%d, %v) = %d, %d, %v, not %d, %d", now, busy, leaf, lender, ok, a, b)
				}
				if ok {
					size := 1 + r.Intn(300)
					x.Gone(leaf, lender, size, now, false)
					m.gone(leaf, lender, size, now, false)
				}
			default:
				leaf := r.Intn(14)
				if got, want := x.Come(leaf, now), m.come(leaf, now); got != want {
					t.Fatalf("Come(%d) = %v", leaf, got)
				}
			}
			m.agrees(t, x, now, busy)
			m.agrees(t, x, now, mess(r))
		}
	}
}

func TestOperation(t *testing.T) { // P35.4: as the data plane uses it, busy are the leaves to which packets came that have not gone
	r := rand.New(rand.NewSource(354))
	sent, none, waits := 0, 0, 0
	for range 60 {
		s, now := random(t, r), 0
		x, waiting := sched.New(s, now), map[int]int{}
		for range 150 {
			now += r.Intn(2) * r.Intn(2000)
			leaves := s.Leaves()
			if leaf := leaves[r.Intn(len(leaves))]; r.Intn(2) == 0 && x.Come(leaf, now) {
				waiting[leaf]++
			}
			var busy []int
			for _, leaf := range leaves {
				if waiting[leaf] > 0 {
					busy = append(busy, leaf)
				}
			}
			able := x.Able(now, busy)
			leaf, lender, ok := x.Pick(now, busy)
			if ok != (len(able) > 0) {
				t.Fatalf("Pick = %v where %v are able", ok, able)
			}
			if !ok {
				at, later := x.Wake(now, busy)
				if later != (len(busy) > 0) || later && at <= now {
					t.Fatalf("Wake(%d, %v) = %d, %v", now, busy, at, later)
				}
				none++
				waits += len(busy)
				continue
			}
			if !slices.Contains(able, leaf) || slices.Contains(x.Overs(now), lender) || !slices.Contains(s.IDs(), lender) {
				t.Fatalf("Pick = %d, %d", leaf, lender)
			}
			waiting[leaf]--
			x.Gone(leaf, lender, 1+r.Intn(200), now, waiting[leaf] == 0)
			sent++
		}
	}
	if sent < 500 || none < 500 || waits < 500 {
		t.Error("too little happened:", sent, none, waits)
	}
}

func TestAnything(t *testing.T) { // P6
	for _, x := range []*sched.Sched{nil, sched.New(family(t, 1), 0), sched.New(nephews(t), math.MaxInt)} {
		for i, a := range wild {
			busy := append(slices.Clone(wild), 4, 5, 4)
			for _, b := range wild {
				x.Come(a, b)
				x.Gone(a, b, wild[(i+5)%len(wild)], b, i%2 == 0)
				x.Gone(4, 1, a, b, i%3 == 0)
				x.Come(4, b)
				x.Pick(b, busy)
			}
			x.Able(a, busy)
			x.Wake(a, busy)
			x.Overs(a)
			x.State(a)
			x.Order(a)
			x.Credit(a)
			x.Carry(nephews(t), a, busy).Come(3, a)
			x.Carry(nil, a, nil)
			x.Copy().Pick(a, busy)
		}
	}
}
