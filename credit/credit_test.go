package credit_test

import (
	"math"
	"math/rand"
	"testing"

	"flashlock/api"
	"flashlock/credit"
)

const floor = -65536

func holds(t *testing.T, c *credit.Credit, id, want int) {
	t.Helper()
	if got, ok := c.Of(id); got != want || !ok {
		t.Errorf("Of(%d) = %d, %t, want %d", id, got, ok, want)
	}
}

func lacks(t *testing.T, c *credit.Credit, id int) {
	t.Helper()
	if got, ok := c.Of(id); got != 0 || ok {
		t.Errorf("Of(%d) = %d, %t", id, got, ok)
	}
	if got, ok := c.Visit(id); got != 0 || ok {
		t.Errorf("Visit(%d) = %d, %t", id, got, ok)
	}
	if c.Close(id) || c.Spend(id, 5) || c.Give(id, 5) || c.Visits(id) != 0 {
		t.Errorf("account %d is there", id)
	}
}

func visit(t *testing.T, c *credit.Credit, id, want int) {
	t.Helper()
	if got, ok := c.Visit(id); got != want || !ok {
		t.Errorf("Visit(%d) = %d, %t, want %d", id, got, ok, want)
	}
	holds(t, c, id, want)
}

// with returns an account 1 with that quantum and credit.
func with(t *testing.T, quantum, n int) *credit.Credit {
	t.Helper()
	c := credit.New()
	if !c.Open(1, quantum) || !c.Give(1, n) {
		t.Fatalf("no account with quantum %d", quantum)
	}
	return c
}

func TestOpen(t *testing.T) { // P30.1
	for _, quantum := range []int{1, 2, 500, api.MaxQuantum} {
		c := credit.New()
		if !c.Open(1, quantum) {
			t.Errorf("Open(1, %d)", quantum)
		}
		holds(t, c, 1, 0)
		visit(t, c, 1, quantum)
	}
	for _, quantum := range []int{math.MinInt, -1, 0, api.MaxQuantum + 1, math.MaxInt} {
		c := credit.New()
		if c.Open(1, quantum) {
			t.Errorf("Open(1, %d)", quantum)
		}
		lacks(t, c, 1)
		if !c.Open(1, 5) {
			t.Error("a failed Open keeps the id")
		}
	}
	c := credit.New()
	for i, id := range []int{0, -1, 1, math.MinInt, math.MaxInt} {
		if !c.Open(id, i+1) {
			t.Errorf("Open(%d, %d)", id, i+1)
		}
	}
	for i, id := range []int{0, -1, 1, math.MinInt, math.MaxInt} {
		visit(t, c, id, i+1)
	}
	lacks(t, c, 2)
}

func TestOpenTwice(t *testing.T) { // P30.1
	c := credit.New()
	c.Open(1, 500)
	if c.Open(1, 700) || c.Open(1, 500) {
		t.Error("an account is opened twice")
	}
	holds(t, c, 1, 0)
	visit(t, c, 1, 500)
	if c.Open(1, 700) {
		t.Error("an account is opened twice")
	}
	visit(t, c, 1, 500)
}

func TestClose(t *testing.T) { // P30.1
	c := with(t, 500, 77)
	c.Open(2, 5)
	if !c.Close(1) || c.Close(1) {
		t.Error("Close once")
	}
	lacks(t, c, 1)
	holds(t, c, 2, 0)
	if !c.Open(1, 9) {
		t.Error("Open after Close")
	}
	holds(t, c, 1, 0)
	visit(t, c, 1, 9)
}

func TestExample(t *testing.T) { // P30.2
	c := credit.New()
	c.Open(1, 500)
	visit(t, c, 1, 500)
	if !c.Spend(1, 1200) || c.Visits(1) != 2 {
		t.Errorf("Visits = %d", c.Visits(1))
	}
}

func TestVisit(t *testing.T) { // P30.2
	c := with(t, 500, -1200)
	for _, want := range []int{-700, -200, 300, 500, 500} {
		visit(t, c, 1, want)
	}
	visit(t, with(t, api.MaxQuantum, floor), 1, 0)
	visit(t, with(t, 1, floor), 1, floor+1)
	visit(t, with(t, 500, 0), 1, 500)
	visit(t, with(t, 500, 1), 1, 500)
	visit(t, with(t, 500, -1), 1, 499)
}

func TestSpend(t *testing.T) { // P30.2
	for _, c := range []struct{ have, n, want int }{
		{100, 0, 100},
		{100, 1, 99},
		{100, 100, 0},
		{100, 101, -1},
		{100, -1, 100},
		{100, math.MinInt, 100},
		{100, api.MaxPacket, 100 - api.MaxPacket},
		{100, api.MaxPacket + 1, 100 - api.MaxPacket},
		{100, math.MaxInt, 100 - api.MaxPacket},
		{floor, 0, floor},
		{floor, 1, floor},
		{floor + 1, 1, floor},
		{floor + 1, 2, floor},
		{floor + 1, math.MaxInt, floor},
		{floor + api.MaxPacket, api.MaxPacket, floor},
		{floor + api.MaxPacket + 1, api.MaxPacket, floor + 1},
	} {
		a := with(t, 500, c.have)
		if !a.Spend(1, c.n) {
			t.Errorf("Spend(1, %d)", c.n)
		}
		holds(t, a, 1, c.want)
	}
}

func TestGive(t *testing.T) { // P30.2
	a := with(t, 500, 0)
	for _, c := range [][2]int{{0, 0}, {499, 499}, {500, 500}, {501, 500}, {math.MaxInt, 500}, {-1, -1}, {floor, floor}, {floor - 1, floor}, {math.MinInt, floor}, {7, 7}} {
		if !a.Give(1, c[0]) {
			t.Errorf("Give(1, %d)", c[0])
		}
		holds(t, a, 1, c[1])
	}
	visit(t, a, 1, 500)
}

func TestVisits(t *testing.T) { // P30.2
	for _, c := range []struct{ quantum, have, want int }{
		{500, 500, 1},
		{500, 1, 1},
		{500, 0, 1},
		{500, -1, 1},
		{500, -499, 1},
		{500, -500, 2},
		{500, -501, 2},
		{500, -999, 2},
		{500, -1000, 3},
		{1, 0, 1},
		{1, -1, 2},
		{1, floor, 65537},
		{api.MaxQuantum, floor, 2},
		{api.MaxQuantum, floor + 1, 1},
	} {
		a := with(t, c.quantum, c.have)
		if got := a.Visits(1); got != c.want {
			t.Errorf("Visits with quantum %d and credit %d = %d, want %d", c.quantum, c.have, got, c.want)
		}
		holds(t, a, 1, c.have)
		if got := counted(a); got != c.want {
			t.Errorf("%d visits with quantum %d and credit %d, want %d", got, c.quantum, c.have, c.want)
		}
	}
}

// counted visits account 1 until its credit is above 0.
func counted(a *credit.Credit) int {
	for n := 1; ; n++ {
		if have, ok := a.Visit(1); have > 0 || !ok {
			return n
		}
	}
}

func TestCopy(t *testing.T) { // P30.2
	c := with(t, 500, 40)
	c.Open(2, 7)
	d := c.Copy()
	holds(t, d, 1, 40)
	holds(t, d, 2, 0)
	d.Spend(1, 10)
	d.Close(2)
	d.Open(3, 1)
	holds(t, c, 1, 40)
	holds(t, c, 2, 0)
	lacks(t, c, 3)
	c.Close(1)
	holds(t, d, 1, 30)
	holds(t, d, 3, 0)
	visit(t, d, 1, 500)
}

func TestNil(t *testing.T) { // P30.2
	var c *credit.Credit
	if c.Open(1, 5) || c.Open(1, 0) || c.Copy() != nil {
		t.Error("nil accounts")
	}
	lacks(t, c, 1)
	if credit.New().Copy() == nil {
		t.Error("the copy of an empty set is nil")
	}
}

func TestCreditStaysInItsRange(t *testing.T) { // P30.3
	r := rand.New(rand.NewSource(1))
	for range 50 {
		quantum := 1 + r.Intn(1<<(1+r.Intn(16)))
		c := with(t, quantum, 0)
		have := 0
		for range 300 {
			n := int(r.Uint64()) >> r.Intn(64)
			switch r.Intn(4) {
			case 0:
				have = min(have+quantum, quantum)
				c.Visit(1)
			case 1:
				have = max(floor, min(n, quantum))
				c.Give(1, n)
			default:
				have = max(floor, have-max(0, min(n, api.MaxPacket)))
				c.Spend(1, n)
			}
			holds(t, c, 1, have)
			if have > quantum || have < floor {
				t.Fatalf("credit %d of quantum %d", have, quantum)
			}
			if got, want := c.Visits(1), counted(c.Copy()); got != want {
				t.Fatalf("Visits = %d, want %d", got, want)
			}
		}
	}
}

func TestVisitsAreBounded(t *testing.T) { // P30.3
	for _, quantum := range []int{1, 2, 3, 500, 1023, 1024, 1025, 2047, 2048, 2049, api.MaxQuantum} {
		bound := (api.MaxPacket + quantum - 1) / quantum
		for _, have := range []int{1, 2, quantum} {
			for _, n := range []int{0, 1, 100, 2047, api.MaxPacket} {
				c := with(t, quantum, have)
				c.Spend(1, n)
				if got := counted(c); got > bound {
					t.Errorf("%d visits with quantum %d, bound %d", got, quantum, bound)
				}
			}
		}
	}
}
