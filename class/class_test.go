package class_test

import (
	"math"
	"math/rand"
	"slices"
	"testing"

	"flashlock/api"
	"flashlock/class"
	"flashlock/share"
)

var negZero = math.Copysign(0, -1)

// good returns a class whose parameters are all valid.
func good() api.Class {
	return api.Class{ID: 3, Parent: 1, Share: 0.25, Prio: 2, Quantum: 500, Limit: 20, Weight: 4, MinIdle: -100, MaxIdle: 200}
}

// A fault makes one part of a class invalid; they stand in the order of the chapter.
type fault struct {
	want api.Errno
	make func(c *api.Class, n int)
	ns   []int
}

func faults() []fault {
	return []fault{
		{api.ErrRange, func(c *api.Class, n int) { c.ID = n }, []int{math.MinInt, -1, 0, api.MaxID + 1, math.MaxInt}},
		{api.ErrRange, func(c *api.Class, n int) { c.Parent = n }, []int{math.MinInt, -1, api.MaxID + 1, math.MaxInt}},
		{api.ErrRing, func(c *api.Class, n int) { c.ID, c.Parent = n, n }, []int{1, 2, api.MaxID}},
		{api.ErrFloat, func(c *api.Class, n int) { c.Share = math.NaN() }, []int{0}},
		{api.ErrPrio, func(c *api.Class, n int) { c.Prio = n }, []int{math.MinInt, -1, api.MaxPrio, api.MaxPrio + 1, math.MaxInt}},
		{api.ErrLimit, func(c *api.Class, n int) { c.Quantum = n }, []int{math.MinInt, -1, 0, api.MaxQuantum + 1, math.MaxInt}},
		{api.ErrLimit, func(c *api.Class, n int) { c.Limit = n }, []int{math.MinInt, -1, 0, api.MaxLimit + 1, math.MaxInt}},
		{api.ErrRange, func(c *api.Class, n int) { c.Weight = n }, []int{math.MinInt, -1, api.MaxWeight + 1, math.MaxInt}},
		{api.ErrRange, func(c *api.Class, n int) { c.MinIdle = n }, []int{math.MinInt, -1<<40 - 1, 1, math.MaxInt}},
		{api.ErrRange, func(c *api.Class, n int) { c.MaxIdle = n }, []int{math.MinInt, -1, 1<<40 + 1, math.MaxInt}},
	}
}

func right(t *testing.T, c api.Class, want api.Errno) {
	t.Helper()
	if got := class.Right(c); got != want {
		t.Errorf("Right(%+v) = %d, want %d", c, got, want)
	}
}

func TestRight(t *testing.T) { // P17.1
	right(t, good(), api.OK)
	for _, change := range []func(c *api.Class){
		func(c *api.Class) { c.ID = 1; c.Parent = 0 },
		func(c *api.Class) { c.ID = api.MaxID },
		func(c *api.Class) { c.Parent = 0 },
		func(c *api.Class) { c.Parent = api.MaxID },
		func(c *api.Class) { c.Share = 1 },
		func(c *api.Class) { c.Share = math.Ldexp(1, -20) },
		func(c *api.Class) { c.Prio = 0 },
		func(c *api.Class) { c.Prio = api.MaxPrio - 1 },
		func(c *api.Class) { c.Quantum = 1 },
		func(c *api.Class) { c.Quantum = api.MaxQuantum },
		func(c *api.Class) { c.Limit = 1 },
		func(c *api.Class) { c.Limit = api.MaxLimit },
		func(c *api.Class) { c.Weight = 0 },
		func(c *api.Class) { c.Weight = api.MaxWeight },
		func(c *api.Class) { c.MinIdle = 0 },
		func(c *api.Class) { c.MinIdle = -1 << 40 },
		func(c *api.Class) { c.MaxIdle = 0 },
		func(c *api.Class) { c.MaxIdle = 1 << 40 },
		func(c *api.Class) { c.Bounded = true },
		func(c *api.Class) { c.Isolated = true },
		func(c *api.Class) { c.Bounded, c.Isolated = true, true },
	} {
		c := good()
		change(&c)
		right(t, c, api.OK)
	}
}

func TestRightNamesTheFault(t *testing.T) { // P17.1
	for _, f := range faults() {
		for _, n := range f.ns {
			c := good()
			f.make(&c, n)
			right(t, c, f.want)
		}
	}
}

func TestRightNamesTheFirstFault(t *testing.T) { // P17.1
	// Taken from the last fault on, each further one hides those behind it.
	list := faults()
	slices.Reverse(list)
	c := good()
	for _, f := range list {
		f.make(&c, f.ns[len(f.ns)-1])
		right(t, c, f.want)
		if f.want == api.ErrPrio {
			c.Share = 2
			right(t, c, api.ErrShare)
		}
	}
	c = good()
	c.ID, c.Parent = 0, 0
	right(t, c, api.ErrRange)
}

func TestShares(t *testing.T) { // P17.1
	for _, x := range []float64{2, math.Nextafter(1, 2), math.Inf(1), math.Inf(-1), -1, -0.5, -math.SmallestNonzeroFloat64, 0, negZero, math.SmallestNonzeroFloat64, math.Ldexp(1, -21)} {
		c := good()
		c.Share = x
		right(t, c, api.ErrShare)
		if got := class.Units(c); got != 0 {
			t.Errorf("Units with share %v = %d", x, got)
		}
	}
	for x, want := range map[float64]int{1: api.Whole, 0.5: api.Whole / 2, 0.25: api.Whole / 4, math.Ldexp(1, -20): 1, math.Ldexp(1.5, -20): 2, math.Nextafter(math.Ldexp(1, -21), 1): 1} {
		c := good()
		c.Share = x
		right(t, c, api.OK)
		if got := class.Units(c); got != want {
			t.Errorf("Units with share %v = %d, want %d", x, got, want)
		}
	}
	c := good()
	c.Share = math.NaN()
	right(t, c, api.ErrFloat)
	if got := class.Units(c); got != 0 {
		t.Errorf("Units with share NaN = %d", got)
	}
}

func TestUnitsOfAnyClass(t *testing.T) { // P17.1
	// The units are those of the Share, whatever the other fields are.
	if got := class.Units(api.Class{Share: 0.5}); got != api.Whole/2 {
		t.Errorf("Units = %d", got)
	}
	if got := class.Units(api.Class{}); got != 0 {
		t.Errorf("Units of the zero class = %d", got)
	}
}

func TestSame(t *testing.T) { // P17.2
	for i, change := range []func(c *api.Class){
		func(c *api.Class) { c.ID++ },
		func(c *api.Class) { c.Parent++ },
		func(c *api.Class) { c.Share = 0.5 },
		func(c *api.Class) { c.Share = math.NaN() },
		func(c *api.Class) { c.Prio++ },
		func(c *api.Class) { c.Quantum++ },
		func(c *api.Class) { c.Limit++ },
		func(c *api.Class) { c.Weight++ },
		func(c *api.Class) { c.MinIdle++ },
		func(c *api.Class) { c.MaxIdle++ },
		func(c *api.Class) { c.Bounded = true },
		func(c *api.Class) { c.Isolated = true },
	} {
		a, b := good(), good()
		if !class.Same(a, b) {
			t.Error("two equal classes differ")
		}
		change(&b)
		if class.Same(a, b) || class.Same(b, a) {
			t.Errorf("change %d is not seen", i)
		}
		change(&a)
		if !class.Same(a, b) {
			t.Errorf("the same change %d is seen", i)
		}
	}
}

func TestSameByShare(t *testing.T) { // P17.2, P17.3
	shares := []float64{0, negZero, 0.5, 1, -1, math.Inf(1), math.Inf(-1), math.NaN(), math.Float64frombits(math.MaxUint64)}
	for _, x := range shares {
		for _, y := range shares {
			a, b := good(), good()
			a.Share, b.Share = x, y
			if got, want := class.Same(a, b), share.Same(x, y); got != want {
				t.Errorf("Same with shares %v and %v = %t", x, y, got)
			}
			b.Limit++
			if class.Same(a, b) {
				t.Errorf("with shares %v and %v, other limits are the same", x, y)
			}
		}
	}
}

func TestEveryClassIsTheSameAsItself(t *testing.T) { // P17.3
	r := rand.New(rand.NewSource(1))
	for range 1000 {
		c := good()
		c.Share = math.Float64frombits(r.Uint64())
		if !class.Same(c, c) {
			t.Errorf("%+v differs from itself", c)
		}
		if class.Right(c) == api.OK && (class.Units(c) < 1 || class.Units(c) > api.Whole) {
			t.Errorf("%+v has %d units", c, class.Units(c))
		}
		c.Share = r.Float64()
		if class.Right(c) == api.OK && (class.Units(c) < 1 || class.Units(c) > api.Whole) {
			t.Errorf("%+v has %d units", c, class.Units(c))
		}
	}
}

func TestBorrows(t *testing.T) { // P17.2
	for _, c := range []struct{ bounded, isolated, want bool }{{false, false, true}, {true, false, false}, {false, true, false}, {true, true, false}} {
		if got := class.Borrows(api.Class{Bounded: c.bounded, Isolated: c.isolated}); got != c.want {
			t.Errorf("Borrows of %v = %t", c, got)
		}
	}
}

func TestFind(t *testing.T) { // P17.2
	l := []api.Class{{ID: 5}, {ID: 2}, {ID: 5, Prio: 1}, {ID: 0}, {ID: -1}}
	for id, want := range map[int]int{5: 0, 2: 1, 0: 3, -1: 4, 1: -1, 3: -1, math.MaxInt: -1} {
		if got := class.Find(l, id); got != want {
			t.Errorf("Find(%d) = %d, want %d", id, got, want)
		}
	}
	if class.Find(nil, 0) != -1 || class.Find([]api.Class{}, 1) != -1 {
		t.Error("Find in an empty list")
	}
}

func TestSorted(t *testing.T) { // P17.2
	l := []api.Class{{ID: 5, Prio: 1}, {ID: 2}, {ID: 5, Prio: 0}, {ID: math.MaxInt}, {ID: math.MinInt}, {ID: 2, Prio: 7}, {ID: 5, Prio: 3}}
	kept := slices.Clone(l)
	want := []api.Class{{ID: math.MinInt}, {ID: 2}, {ID: 2, Prio: 7}, {ID: 5, Prio: 1}, {ID: 5, Prio: 0}, {ID: 5, Prio: 3}, {ID: math.MaxInt}}
	got := class.Sorted(l)
	if !slices.Equal(got, want) {
		t.Errorf("Sorted = %v", got)
	}
	got[0].ID = 77
	if !slices.Equal(l, kept) {
		t.Errorf("the argument became %v", l)
	}
	if len(class.Sorted(nil)) != 0 || len(class.Sorted([]api.Class{})) != 0 {
		t.Error("Sorted of an empty list")
	}
}

func TestSortedKeepsTheOrderOfEquals(t *testing.T) { // P17.2
	r := rand.New(rand.NewSource(2))
	var l []api.Class
	for i := range 200 {
		l = append(l, api.Class{ID: r.Intn(10), Limit: i, Share: math.NaN()})
	}
	sorted := class.Sorted(l)
	for i := 1; i < len(sorted); i++ {
		a, b := sorted[i-1], sorted[i]
		if a.ID > b.ID || a.ID == b.ID && a.Limit >= b.Limit {
			t.Errorf("%d, %d ahead of %d, %d", a.ID, a.Limit, b.ID, b.Limit)
		}
	}
	if len(sorted) != len(l) || !math.IsNaN(sorted[7].Share) {
		t.Error("a class was lost or changed")
	}
}
