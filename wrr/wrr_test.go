package wrr_test

import (
	"maps"
	"math"
	"math/rand"
	"slices"
	"testing"

	"flashlock/api"
	"flashlock/credit"
	"flashlock/wrr"
)

const floor = -65536

// joined returns a Wrr with members by ids, priorities and quanta.
func joined(t *testing.T, members ...[3]int) *wrr.Wrr {
	t.Helper()
	w := wrr.New()
	for _, m := range members {
		if !w.Join(m[0], m[1], m[2]) {
			t.Fatalf("Join(%v)", m)
		}
	}
	return w
}

func order(t *testing.T, w *wrr.Wrr, prio int, want ...int) {
	t.Helper()
	if got := w.Order(prio); !slices.Equal(got, want) {
		t.Errorf("Order(%d) = %v, want %v", prio, got, want)
	}
}

func holds(t *testing.T, w *wrr.Wrr, id, want int) {
	t.Helper()
	if got, ok := w.Credit(id); got != want || !ok {
		t.Errorf("Credit(%d) = %d, %t, want %d", id, got, ok, want)
	}
}

func pick(t *testing.T, w *wrr.Wrr, want int, able ...int) {
	t.Helper()
	if got, ok := w.Pick(able); got != want || !ok {
		t.Errorf("Pick(%v) = %d, %t, want %d", able, got, ok, want)
	}
}

func noPick(t *testing.T, w *wrr.Wrr, able ...int) {
	t.Helper()
	if got, ok := w.Pick(able); got != 0 || ok {
		t.Errorf("Pick(%v) = %d, %t", able, got, ok)
	}
}

func lacks(t *testing.T, w *wrr.Wrr, id int) {
	t.Helper()
	if prio, ok := w.Prio(id); prio != 0 || ok {
		t.Errorf("Prio(%d) = %d, %t", id, prio, ok)
	}
	if n, ok := w.Credit(id); n != 0 || ok {
		t.Errorf("Credit(%d) = %d, %t", id, n, ok)
	}
	if w.Leave(id) || w.Give(id, 5) || w.Sent(id, 5) {
		t.Errorf("%d is a member", id)
	}
	noPick(t, w, id)
}

func TestExample(t *testing.T) { // P31.2
	w := joined(t, [3]int{1, 0, 100}, [3]int{2, 0, 100})
	pick(t, w, 1, 1, 2)
	w.Sent(1, 300)
	pick(t, w, 2, 1, 2)
	pick(t, w, 2, 1, 2)
	holds(t, w, 1, -100)
}

func TestJoin(t *testing.T) { // P31.1
	w := wrr.New()
	for prio := range api.MaxPrio {
		order(t, w, prio)
		if !w.Join(10+prio, prio, 1) || !w.Join(20+prio, prio, api.MaxQuantum) {
			t.Errorf("Join with priority %d", prio)
		}
	}
	for prio := range api.MaxPrio {
		order(t, w, prio, 10+prio, 20+prio)
		for _, id := range []int{10 + prio, 20 + prio} {
			if got, ok := w.Prio(id); got != prio || !ok {
				t.Errorf("Prio(%d) = %d, %t", id, got, ok)
			}
			holds(t, w, id, 0)
		}
	}
	for _, id := range []int{0, -1, math.MinInt, math.MaxInt} {
		lacks(t, w, id)
		if !w.Join(id, 3, 5) {
			t.Errorf("Join(%d)", id)
		}
		holds(t, w, id, 0)
	}
	order(t, w, 3, 13, 23, 0, -1, math.MinInt, math.MaxInt)
	// Members join at the tail of a ring that was turned, too.
	pick(t, w, 10, 10)
	w.Join(5, 0, 5)
	order(t, w, 0, 20, 10, 5)
}

func TestJoinFails(t *testing.T) { // P31.1
	w := joined(t, [3]int{1, 0, 100}, [3]int{2, 7, 100})
	w.Give(1, -50)
	for _, m := range [][3]int{
		{3, -1, 5}, {3, 8, 5}, {3, math.MinInt, 5}, {3, math.MaxInt, 5},
		{3, 0, 0}, {3, 0, -1}, {3, 0, api.MaxQuantum + 1}, {3, 7, math.MinInt}, {3, 7, math.MaxInt},
		{1, 0, 5}, {1, 7, 5}, {2, 0, 5}, {2, 7, 5}, {1, 8, 5}, {1, 0, 0},
	} {
		if w.Join(m[0], m[1], m[2]) {
			t.Errorf("Join(%v)", m)
		}
		lacks(t, w, 3)
		order(t, w, 0, 1)
		order(t, w, 7, 2)
		holds(t, w, 1, -50)
		holds(t, w, 2, 0)
	}
	if !w.Join(3, 0, 5) {
		t.Error("a failed Join keeps the id")
	}
	// The quantum of a member is still its own.
	w.Give(1, math.MaxInt)
	holds(t, w, 1, 100)
}

func TestLeave(t *testing.T) { // P31.1
	w := joined(t, [3]int{1, 2, 100}, [3]int{2, 2, 100}, [3]int{3, 2, 100}, [3]int{4, 5, 100})
	w.Give(2, 70)
	if !w.Leave(2) || w.Leave(2) {
		t.Error("Leave(2)")
	}
	lacks(t, w, 2)
	order(t, w, 2, 1, 3)
	order(t, w, 5, 4)
	if w.Leave(99) {
		t.Error("Leave(99)")
	}
	// It may join again, anywhere, and begins with credit 0.
	if !w.Join(2, 5, 9) {
		t.Error("Join(2) after Leave(2)")
	}
	order(t, w, 2, 1, 3)
	order(t, w, 5, 4, 2)
	holds(t, w, 2, 0)
	w.Give(2, 70)
	holds(t, w, 2, 9)
	for _, id := range []int{1, 3, 4, 2} {
		if !w.Leave(id) {
			t.Errorf("Leave(%d)", id)
		}
	}
	order(t, w, 2)
	order(t, w, 5)
	noPick(t, w, 1, 2, 3, 4)
}

func TestOrderInvalid(t *testing.T) { // P31.1
	w := joined(t, [3]int{1, 0, 100}, [3]int{2, 7, 100})
	for _, prio := range []int{math.MinInt, -1, 8, 9, math.MaxInt} {
		order(t, w, prio)
	}
	clear(w.Order(0))
	order(t, w, 0, 1)
}

func TestCredit(t *testing.T) { // P31.1
	w, c := joined(t, [3]int{1, 3, 500}), credit.New()
	c.Open(1, 500)
	for _, n := range []int{math.MinInt, floor - 1, floor, -1, 0, 1, 499, 500, 501, 2047, 2048, 2049, math.MaxInt} {
		for _, start := range []int{floor, -3, 500} {
			for _, op := range []func() bool{
				func() bool { return w.Give(1, n) == c.Give(1, n) },
				func() bool { return w.Give(1, start) == c.Give(1, start) },
				func() bool { return w.Sent(1, n) == c.Spend(1, n) },
			} {
				if !op() {
					t.Error("results differ from credit's")
				}
				want, _ := c.Of(1)
				holds(t, w, 1, want)
			}
		}
	}
	lacks(t, w, 2)
}

func TestNoPick(t *testing.T) { // P31.2
	w := joined(t, [3]int{1, 0, 100}, [3]int{2, 0, 100}, [3]int{3, 4, 100})
	pick(t, w, 1, 1)
	for range 3 {
		noPick(t, w)
		noPick(t, w, 4)
		noPick(t, w, 0, -1, math.MaxInt, 4, 4)
		order(t, w, 0, 2, 1)
		order(t, w, 4, 3)
		holds(t, w, 1, 100)
		holds(t, w, 2, 0)
		holds(t, w, 3, 0)
	}
	noPick(t, wrr.New(), 0, 1)
}

func TestPick(t *testing.T) { // P31.2
	w := joined(t, [3]int{1, 0, 10}, [3]int{2, 0, 10}, [3]int{3, 0, 10}, [3]int{4, 1, 10}, [3]int{5, 7, 10})
	// The smallest priority with an able member, whatever the order and the strangers in able.
	pick(t, w, 5, 99, 5)
	pick(t, w, 4, 5, 4)
	pick(t, w, 2, 5, 4, 3, 2)
	order(t, w, 0, 3, 1, 2)
	order(t, w, 1, 4)
	order(t, w, 7, 5)
	// Who is not able is passed over and gets nothing.
	pick(t, w, 2, 2, 2)
	order(t, w, 0, 3, 1, 2)
	holds(t, w, 1, 0)
	holds(t, w, 3, 0)
	holds(t, w, 2, 10)
	// Who is visited with a credit that is not above 0 then has got its quantum.
	w.Give(3, -10)
	w.Give(1, -9)
	pick(t, w, 1, 1, 3)
	holds(t, w, 3, 0)
	holds(t, w, 1, 1)
	order(t, w, 0, 2, 3, 1)
	pick(t, w, 2, 1, 2, 3)
	pick(t, w, 3, 1, 2, 3)
	pick(t, w, 1, 1, 2, 3)
	holds(t, w, 1, 10)
}

func TestPickRounds(t *testing.T) { // P31.2
	// The ring is turned as often as it takes.
	w := joined(t, [3]int{1, 0, 10}, [3]int{2, 0, 100}, [3]int{3, 0, 1})
	w.Give(1, -35)
	w.Give(2, -350)
	w.Give(3, -3)
	// Rounds leave -25 -250 -2, -15 -150 -1, -5 -50 0, and then the first has 5.
	pick(t, w, 1, 1, 2, 3)
	holds(t, w, 1, 5)
	holds(t, w, 2, -50)
	holds(t, w, 3, 0)
	order(t, w, 0, 2, 3, 1)
	pick(t, w, 2, 1, 2, 3)
	holds(t, w, 2, 50)
	// The longest search there is.
	w = joined(t, [3]int{1, 6, 1}, [3]int{2, 6, 1}, [3]int{3, 6, 1})
	w.Give(1, floor)
	w.Give(2, floor)
	pick(t, w, 1, 2, 1)
	holds(t, w, 1, 1)
	holds(t, w, 2, 0)
	holds(t, w, 3, 0)
	order(t, w, 6, 2, 3, 1)
}

func TestPickKeepsAble(t *testing.T) { // P31.2
	w := joined(t, [3]int{1, 0, 10}, [3]int{2, 0, 10})
	able := append(make([]int, 0, 6), 9, 2, 2, 1)
	held := slices.Clone(able[:cap(able)])
	w.Pick(able)
	if !slices.Equal(able[:cap(able)], held) {
		t.Errorf("able is %v", able[:cap(able)])
	}
}

func TestCopy(t *testing.T) { // P31.2
	w := joined(t, [3]int{1, 0, 10}, [3]int{2, 0, 10}, [3]int{3, 7, 10})
	pick(t, w, 1, 1)
	w.Give(2, -5)
	c := w.Copy()
	same := func(w *wrr.Wrr) {
		t.Helper()
		order(t, w, 0, 2, 1)
		order(t, w, 7, 3)
		holds(t, w, 1, 10)
		holds(t, w, 2, -5)
		holds(t, w, 3, 0)
		lacks(t, w, 4)
	}
	change := func(w *wrr.Wrr) {
		pick(t, w, 2, 2)
		w.Join(4, 0, 10)
		w.Leave(3)
		w.Sent(1, 7)
	}
	same(c)
	change(w)
	same(c)
	d := c.Copy()
	change(c)
	same(d)
}

func TestNil(t *testing.T) { // P31.2
	var w *wrr.Wrr
	if w.Join(1, 0, 5) || w.Copy() != nil {
		t.Error("a nil Wrr has members")
	}
	for prio := -1; prio <= 8; prio++ {
		order(t, w, prio)
	}
	lacks(t, w, 0)
	lacks(t, w, 1)
	noPick(t, w)
}

// plain is the chapter's rings and accounts as lists and maps.
type plain struct {
	rings           [8][]int
	credits, quanta map[int]int
}

func (p *plain) prio(id int) int {
	return slices.IndexFunc(p.rings[:], func(r []int) bool { return slices.Contains(r, id) })
}

func (p *plain) set(id, n int) { p.credits[id] = max(floor, min(n, p.quanta[id])) }

func (p *plain) join(id, prio, quantum int) bool {
	if prio < 0 || prio > 7 || p.prio(id) >= 0 || quantum < 1 || quantum > 65536 {
		return false
	}
	p.rings[prio] = append(p.rings[prio], id)
	p.credits[id], p.quanta[id] = 0, quantum
	return true
}

func (p *plain) leave(id int) bool {
	prio := p.prio(id)
	if prio < 0 {
		return false
	}
	p.rings[prio] = slices.DeleteFunc(p.rings[prio], func(x int) bool { return x == id })
	delete(p.credits, id)
	delete(p.quanta, id)
	return true
}

func (p *plain) pick(able []int) (int, bool) {
	prio := 8
	for _, id := range able {
		if x := p.prio(id); x >= 0 {
			prio = min(prio, x)
		}
	}
	if prio == 8 {
		return 0, false
	}
	for {
		id := p.rings[prio][0]
		p.rings[prio] = append(p.rings[prio][1:], id)
		if slices.Contains(able, id) {
			p.set(id, p.credits[id]+p.quanta[id])
			if p.credits[id] > 0 {
				return id, true
			}
		}
	}
}

func (p *plain) copy() *plain {
	c := &plain{credits: maps.Clone(p.credits), quanta: maps.Clone(p.quanta)}
	for i, r := range p.rings {
		c.rings[i] = slices.Clone(r)
	}
	return c
}

// agrees holds both in all that can be asked.
func agrees(t *testing.T, w *wrr.Wrr, p *plain) {
	t.Helper()
	for prio, r := range p.rings {
		order(t, w, prio, r...)
	}
	for id := range 14 {
		want, in := p.credits[id]
		if got, ok := w.Credit(id); got != want || ok != in {
			t.Errorf("Credit(%d) = %d, %t, want %d, %t", id, got, ok, want, in)
		}
		if got, ok := w.Prio(id); ok != in || got != max(0, p.prio(id)) {
			t.Errorf("Prio(%d) = %d, %t, want %d, %t", id, got, ok, p.prio(id), in)
		}
	}
}

// some draws ids, of strangers too, and some twice.
func some(rnd *rand.Rand) (l []int) {
	for range rnd.Intn(8) {
		l = append(l, rnd.Intn(14))
	}
	return l
}

func TestModel(t *testing.T) { // P31.1 P31.2 P31.3
	rnd := rand.New(rand.NewSource(31))
	w, p := wrr.New(), &plain{credits: map[int]int{}, quanta: map[int]int{}}
	for range 20000 {
		id, n := rnd.Intn(14), rnd.Intn(3000)-100
		_, in := p.credits[id]
		same := true
		switch rnd.Intn(10) {
		case 0, 1:
			prio := rnd.Intn(10) - 1
			same = w.Join(id, prio, n) == p.join(id, prio, n)
		case 2:
			same = w.Leave(id) == p.leave(id)
		case 3:
			same = w.Give(id, n-2000) == in
			if in {
				p.set(id, n-2000)
			}
		case 4, 5:
			same = w.Sent(id, n) == in
			if in {
				p.set(id, p.credits[id]-max(0, min(n, 2048)))
			}
		case 6:
			w, p = w.Copy(), p.copy()
		default:
			able := some(rnd)
			a, x := w.Pick(able)
			b, y := p.pick(able)
			if same = a == b && x == y; same && x {
				foremost(t, w, a, able)
			}
		}
		if !same {
			t.Fatal("results differ")
		}
		agrees(t, w, p)
	}
}

// foremost asks that id is of able, and none of them of a smaller priority.
func foremost(t *testing.T, w *wrr.Wrr, id int, able []int) { // P31.3
	t.Helper()
	own, _ := w.Prio(id)
	if !slices.Contains(able, id) {
		t.Errorf("Pick(%v) = %d", able, id)
	}
	for _, x := range able {
		if prio, ok := w.Prio(x); ok && prio < own {
			t.Errorf("Pick(%v) = %d of priority %d", able, id, own)
		}
	}
}

func TestWaiting(t *testing.T) { // P31.3
	rnd := rand.New(rand.NewSource(32))
	for range 1500 {
		w, c := wrr.New(), credit.New()
		n := 1 + rnd.Intn(6)
		for id := 1; id <= n; id++ {
			quantum, start := 1+rnd.Intn(1000), rnd.Intn(6000)-5000
			w.Join(id, 2, quantum)
			c.Open(id, quantum)
			w.Give(id, start)
			c.Give(id, start)
		}
		w.Join(90, 3, 65536) // of a greater priority: it does not come first
		waits := 1 + rnd.Intn(n)
		bound := (n-1)*c.Visits(waits) + 1
		for picks := 1; ; picks++ {
			able := []int{90, waits}
			for range rnd.Intn(2 * n) {
				able = append(able, 1+rnd.Intn(n))
			}
			got, ok := w.Pick(able)
			if got == waits && ok {
				break
			}
			if picks == bound {
				t.Fatalf("%d of %d members is not returned after %d Picks", waits, n, bound)
			}
			w.Sent(got, rnd.Intn(2049))
		}
	}
}
