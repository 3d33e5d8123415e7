package ledger_test

import (
	"math"
	"math/rand"
	"slices"
	"testing"

	"flashlock/api"
	"flashlock/ledger"
)

var reasons = []int{api.BadSize, api.NoLeaf, api.QueueFull, api.NoSlot, api.NoRoom}

var noReasons = []int{math.MinInt, -1, api.Kept, api.Reasons, api.Reasons + 1, math.MaxInt}

func counts(t *testing.T, l *ledger.Ledger, id int, want api.Stat) {
	t.Helper()
	if got := l.Of(id); got != want {
		t.Errorf("Of(%d) = %+v, want %+v", id, got, want)
	}
}

func lists(t *testing.T, l *ledger.Ledger, want ...int) {
	t.Helper()
	if got := l.IDs(); !slices.Equal(got, want) {
		t.Errorf("IDs = %v, want %v", got, want)
	}
}

func totals(t *testing.T, l *ledger.Ledger, want api.Stat) {
	t.Helper()
	if got := l.Total(); got != want {
		t.Errorf("Total = %+v, want %+v", got, want)
	}
}

func TestNew(t *testing.T) { // P34.1
	l := ledger.New()
	if l == nil {
		t.Fatal("New is nil")
	}
	lists(t, l)
	totals(t, l, api.Stat{})
	counts(t, l, 0, api.Stat{})
	counts(t, l, 1, api.Stat{})
	lists(t, l)
}

func TestExample(t *testing.T) { // P34.2
	l := ledger.New()
	l.Got(1, 100)
	l.Got(1, 50)
	l.Sent(1, 100)
	if got := l.Of(1).Waiting; got != 1 {
		t.Errorf("Waiting = %d", got)
	}
	counts(t, l, 1, api.Stat{Got: 2, GotBytes: 150, Sent: 1, SentBytes: 100, Waiting: 1})
}

func TestSizes(t *testing.T) { // P34.1
	for size, bytes := range map[int]int{math.MinInt: 0, -1: 0, 0: 0, 1: 1, 2047: 2047, 2048: 2048, 2049: 2048, math.MaxInt: 2048} {
		l := ledger.New()
		l.Got(1, size)
		counts(t, l, 1, api.Stat{Got: 1, GotBytes: bytes, Waiting: 1})
		l = ledger.New()
		l.Sent(1, size)
		counts(t, l, 1, api.Stat{Sent: 1, SentBytes: bytes})
		lists(t, l, 1)
	}
}

func TestLost(t *testing.T) { // P34.1, P34.2
	l := ledger.New()
	for n, reason := range reasons {
		for range n + 1 {
			l.Lost(1, reason)
		}
	}
	for n, reason := range reasons {
		if got := l.Reason(1, reason); got != n+1 {
			t.Errorf("Reason(1, %d) = %d", reason, got)
		}
		if got := l.Reason(2, reason); got != 0 {
			t.Errorf("Reason(2, %d) = %d", reason, got)
		}
	}
	counts(t, l, 1, api.Stat{Lost: 15})
	lists(t, l, 1)
}

func TestLostForNoReason(t *testing.T) { // P34.1, P34.2
	l := ledger.New()
	for _, reason := range noReasons {
		l.Lost(1, reason)
		if got := l.Reason(1, reason); got != 0 {
			t.Errorf("Reason(1, %d) = %d", reason, got)
		}
	}
	lists(t, l)
	totals(t, l, api.Stat{})
	for _, reason := range reasons {
		l.Lost(1, reason)
	}
	for _, reason := range noReasons {
		l.Lost(1, reason)
		if got := l.Reason(1, reason); got != 0 {
			t.Errorf("Reason(1, %d) = %d", reason, got)
		}
	}
	counts(t, l, 1, api.Stat{Lost: 5})
}

func TestWaitingIsNotNegative(t *testing.T) { // P34.2
	l := ledger.New()
	l.Sent(1, 10)
	l.Sent(1, 10)
	l.Got(1, 7)
	counts(t, l, 1, api.Stat{Got: 1, GotBytes: 7, Sent: 2, SentBytes: 20})
	l.Got(1, 7)
	counts(t, l, 1, api.Stat{Got: 2, GotBytes: 14, Sent: 2, SentBytes: 20})
	l.Got(1, 7)
	counts(t, l, 1, api.Stat{Got: 3, GotBytes: 21, Sent: 2, SentBytes: 20, Waiting: 1})
}

func TestWaitingIsApartFromLosses(t *testing.T) { // P34.2
	l := ledger.New()
	l.Got(1, 7)
	l.Lost(1, api.NoRoom)
	counts(t, l, 1, api.Stat{Got: 1, GotBytes: 7, Lost: 1, Waiting: 1})
}

func TestIDs(t *testing.T) { // P34.2
	l := ledger.New()
	l.Lost(9, api.NoLeaf)
	l.Got(-4, 0)
	l.Sent(5, 1)
	l.Got(math.MaxInt, 1)
	l.Got(math.MinInt, 1)
	l.Got(5, 1)
	l.Got(0, 1)
	want := []int{math.MinInt, -4, 0, 5, 9, math.MaxInt}
	lists(t, l, want...)
	l.IDs()[0] = 77
	lists(t, l, want...)
}

func TestTotal(t *testing.T) { // P34.2
	l := ledger.New()
	l.Got(1, 10)
	l.Got(1, 20)
	l.Got(2, 5)
	l.Sent(2, 5)
	l.Sent(2, 6)
	l.Sent(3, 7)
	l.Lost(3, api.NoSlot)
	l.Lost(4, api.NoRoom)
	// The Waiting of the ids is added up, not worked out anew from the sums.
	totals(t, l, api.Stat{Got: 3, GotBytes: 35, Sent: 3, SentBytes: 18, Lost: 2, Waiting: 2})
}

// filled returns a ledger with something for each id from 1 to 4.
func filled() *ledger.Ledger {
	l := ledger.New()
	for id := 1; id <= 4; id++ {
		for n := range id {
			l.Got(id, 100*id+n)
		}
		l.Sent(id, 100*id)
		l.Lost(id, reasons[id])
	}
	return l
}

func TestKeep(t *testing.T) { // P34.2, P34.3
	l := filled()
	ids := []int{4, 2, 9, 4}
	k := l.Keep(ids)
	lists(t, k, 2, 4)
	if !slices.Equal(ids, []int{4, 2, 9, 4}) {
		t.Errorf("the argument became %v", ids)
	}
	for _, id := range []int{2, 4} {
		counts(t, k, id, l.Of(id))
		for _, reason := range reasons {
			if k.Reason(id, reason) != l.Reason(id, reason) {
				t.Errorf("Reason(%d, %d) = %d", id, reason, k.Reason(id, reason))
			}
		}
	}
	counts(t, k, 1, api.Stat{})
	for _, none := range [][]int{nil, {}, {0, 9, -1}} {
		k := l.Keep(none)
		if k == nil {
			t.Fatalf("Keep(%v) is nil", none)
		}
		lists(t, k)
		totals(t, k, api.Stat{})
		k.Got(1, 1)
		lists(t, k, 1)
	}
	lists(t, l, 1, 2, 3, 4)
}

func TestKeepIsIndependent(t *testing.T) { // P34.2
	l := filled()
	k := l.Keep([]int{1, 2})
	was := l.Of(1)
	k.Got(1, 5)
	k.Lost(1, api.NoRoom)
	k.Sent(7, 5)
	counts(t, l, 1, was)
	if l.Reason(1, api.NoRoom) != 0 {
		t.Error("a loss of the kept ledger is seen in the other one")
	}
	lists(t, l, 1, 2, 3, 4)
	was = k.Of(2)
	l.Sent(2, 5)
	l.Lost(2, api.NoRoom)
	counts(t, k, 2, was)
}

func TestCopy(t *testing.T) { // P34.2
	l := filled()
	c := l.Copy()
	lists(t, c, 1, 2, 3, 4)
	for id := 1; id <= 4; id++ {
		counts(t, c, id, l.Of(id))
		for _, reason := range reasons {
			if c.Reason(id, reason) != l.Reason(id, reason) {
				t.Errorf("Reason(%d, %d) = %d", id, reason, c.Reason(id, reason))
			}
		}
	}
	was := l.Of(1)
	c.Got(1, 5)
	c.Lost(8, api.NoSlot)
	counts(t, l, 1, was)
	lists(t, l, 1, 2, 3, 4)
	was = c.Of(3)
	l.Sent(3, 5)
	l.Lost(3, api.BadSize)
	counts(t, c, 3, was)
	if c.Reason(3, api.BadSize) != 0 {
		t.Error("a loss of the original is seen in the copy")
	}
}

func TestNil(t *testing.T) { // P34.2
	var l *ledger.Ledger
	l.Got(1, 5)
	l.Sent(1, 5)
	l.Lost(1, api.NoSlot)
	l.Lost(1, 0)
	counts(t, l, 1, api.Stat{})
	lists(t, l)
	totals(t, l, api.Stat{})
	if l.Reason(1, api.NoSlot) != 0 || l.Reason(1, -1) != 0 || l.Keep([]int{1}) != nil || l.Keep(nil) != nil || l.Copy() != nil {
		t.Error("nil ledger")
	}
}

func add(a, b api.Stat) api.Stat {
	return api.Stat{Got: a.Got + b.Got, GotBytes: a.GotBytes + b.GotBytes, Sent: a.Sent + b.Sent, SentBytes: a.SentBytes + b.SentBytes, Lost: a.Lost + b.Lost, Waiting: a.Waiting + b.Waiting}
}

func TestPartsAddUp(t *testing.T) { // P34.3
	r := rand.New(rand.NewSource(1))
	for range 30 {
		l := ledger.New()
		for range 200 {
			id, n := r.Intn(12), r.Intn(3000)-400
			switch r.Intn(3) {
			case 0:
				l.Got(id, n)
			case 1:
				l.Sent(id, n)
			default:
				l.Lost(id, r.Intn(8)-1)
			}
		}
		var some, others []int
		for id := range 12 {
			if r.Intn(2) == 0 {
				some = append(some, id)
			} else {
				others = append(others, id)
			}
		}
		totals(t, l, add(l.Keep(some).Total(), l.Keep(others).Total()))
		var sum api.Stat
		for _, id := range l.IDs() {
			sum = add(sum, l.Of(id))
			lost := 0
			for _, reason := range reasons {
				lost += l.Reason(id, reason)
			}
			if lost != l.Of(id).Lost {
				t.Errorf("%d were lost for reasons, %d in all", lost, l.Of(id).Lost)
			}
		}
		totals(t, l, sum)
	}
}
