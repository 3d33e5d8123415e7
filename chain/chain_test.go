package chain_test

import (
	"math"
	"math/rand"
	"slices"
	"testing"

	"flashlock/chain"
)

func nodes(c *chain.Chains, list int) []int { return slices.Collect(c.All(list)) }

func holds(t *testing.T, c *chain.Chains, list int, want ...int) {
	t.Helper()
	if got := nodes(c, list); !slices.Equal(got, want) || c.Len(list) != len(want) {
		t.Errorf("list %d contains %v, %d of them, want %v", list, got, c.Len(list), want)
	}
	first, ok := c.First(list)
	if ok != (len(want) > 0) || ok && first != want[0] || !ok && first != 0 {
		t.Errorf("First(%d) = %d, %t", list, first, ok)
	}
	for _, node := range want {
		if at, ok := c.Where(node); at != list || !ok {
			t.Errorf("Where(%d) = %d, %t, want %d", node, at, ok, list)
		}
	}
}

func filled(t *testing.T, lists ...[]int) *chain.Chains {
	t.Helper()
	c := chain.New(10, len(lists))
	for list, l := range lists {
		for _, node := range l {
			if !c.Push(list, node) {
				t.Fatalf("Push(%d, %d)", list, node)
			}
		}
	}
	return c
}

func TestNew(t *testing.T) { // P7.1
	for _, x := range [][2]int{{0, 1}, {-1, 1}, {4097, 1}, {1, 0}, {1, -1}, {1, 257}, {math.MaxInt, 1}, {1, math.MinInt}} {
		if chain.New(x[0], x[1]) != nil {
			t.Errorf("New(%d, %d) is not nil", x[0], x[1])
		}
	}
	for _, x := range [][2]int{{1, 1}, {4096, 256}, {1, 256}, {4096, 1}} {
		c := chain.New(x[0], x[1])
		if c == nil {
			t.Fatalf("New(%d, %d) is nil", x[0], x[1])
		}
		for list := range x[1] {
			holds(t, c, list)
		}
		if !c.Push(x[1]-1, x[0]-1) || c.Push(x[1], 0) || c.Push(0, x[0]) {
			t.Errorf("the bounds of New(%d, %d)", x[0], x[1])
		}
	}
}

func TestPush(t *testing.T) { // P7.1
	c := filled(t, []int{5, 3}, []int{4})
	for _, x := range [][2]int{{-1, 0}, {2, 0}, {0, -1}, {0, 10}, {0, 5}, {0, 3}, {1, 5}, {1, 4}, {math.MaxInt, math.MaxInt}, {math.MinInt, math.MinInt}} {
		if c.Push(x[0], x[1]) {
			t.Errorf("Push(%d, %d) returned true", x[0], x[1])
		}
	}
	holds(t, c, 0, 5, 3)
	holds(t, c, 1, 4)
	if !c.Push(0, 0) || !c.Push(0, 9) {
		t.Error("Push of the first and the last node")
	}
	holds(t, c, 0, 5, 3, 0, 9)
}

func TestPopAndFirst(t *testing.T) { // P7.1
	c := filled(t, []int{5, 3}, nil)
	for _, want := range []int{5, 3} {
		if got, ok := c.First(0); got != want || !ok {
			t.Errorf("First = %d, %t, want %d", got, ok, want)
		}
		if got, ok := c.Pop(0); got != want || !ok {
			t.Errorf("Pop = %d, %t, want %d", got, ok, want)
		}
		if list, ok := c.Where(want); list != 0 || ok {
			t.Errorf("Where(%d) = %d, %t", want, list, ok)
		}
	}
	for _, list := range []int{0, 1, 2, -1, math.MaxInt, math.MinInt} {
		if got, ok := c.Pop(list); got != 0 || ok {
			t.Errorf("Pop(%d) = %d, %t", list, got, ok)
		}
		if got, ok := c.First(list); got != 0 || ok {
			t.Errorf("First(%d) = %d, %t", list, got, ok)
		}
	}
	if !c.Push(1, 3) || !c.Push(1, 5) || !c.Push(0, 6) {
		t.Error("Push of nodes that were popped")
	}
	holds(t, c, 1, 3, 5)
	holds(t, c, 0, 6)
}

func TestLenAndWhereOutside(t *testing.T) { // P7.2
	c := filled(t, []int{0}, []int{1})
	for _, x := range []int{2, -1, 256, math.MaxInt, math.MinInt} {
		if c.Len(x) != 0 || len(nodes(c, x)) != 0 {
			t.Errorf("list %d is not there", x)
		}
	}
	for _, x := range []int{2, 10, -1, 4096, math.MaxInt, math.MinInt} {
		if list, ok := c.Where(x); list != 0 || ok {
			t.Errorf("Where(%d) = %d, %t", x, list, ok)
		}
	}
}

func TestJoinExample(t *testing.T) { // P7.2, P7.3
	c := filled(t, []int{5, 3}, []int{4})
	if !c.Join(1, 0) {
		t.Error("Join(1, 0)")
	}
	holds(t, c, 1, 4, 5, 3)
	holds(t, c, 0)
	if !c.Push(0, 7) || !c.Push(1, 8) || c.Push(0, 5) {
		t.Error("Push after Join")
	}
	holds(t, c, 0, 7)
	holds(t, c, 1, 4, 5, 3, 8)
}

func TestJoinOfEmptyLists(t *testing.T) { // P7.2
	c := filled(t, []int{5, 3}, nil, nil)
	if !c.Join(0, 1) || !c.Join(1, 2) {
		t.Error("Join of an empty list")
	}
	holds(t, c, 0, 5, 3)
	holds(t, c, 1)
	if !c.Join(2, 0) {
		t.Error("Join to an empty list")
	}
	holds(t, c, 0)
	holds(t, c, 2, 5, 3)
	c.Push(2, 1)
	holds(t, c, 2, 5, 3, 1)
}

func TestJoinOfOtherLists(t *testing.T) { // P7.2
	c := filled(t, []int{5, 3}, []int{4})
	for _, x := range [][2]int{{0, 0}, {1, 1}, {0, 2}, {2, 0}, {-1, 0}, {0, -1}, {7, 7}, {math.MinInt, math.MaxInt}} {
		if c.Join(x[0], x[1]) {
			t.Errorf("Join(%d, %d) returned true", x[0], x[1])
		}
	}
	holds(t, c, 0, 5, 3)
	holds(t, c, 1, 4)
}

func TestAllSeesTheBeginningOfTheLoop(t *testing.T) { // P7.2
	c := filled(t, []int{5, 3}, nil)
	all := c.All(0)
	c.Push(0, 7)
	if got := slices.Collect(all); !slices.Equal(got, []int{5, 3, 7}) {
		t.Error("the state is taken when the loop begins", got)
	}
	c.Pop(0)
	if got := slices.Collect(all); !slices.Equal(got, []int{3, 7}) {
		t.Error("an iterator is used again", got)
	}
	var some []int
	for node := range all {
		some = append(some, node)
		break
	}
	if !slices.Equal(some, []int{3}) {
		t.Error("a loop that is left", some)
	}
}

func TestCopyIsIndependent(t *testing.T) { // P7.2
	c := filled(t, []int{5, 3}, []int{4})
	d := c.Copy()
	c.Pop(0)
	c.Push(1, 9)
	holds(t, d, 0, 5, 3)
	holds(t, d, 1, 4)
	d.Join(0, 1)
	d.Push(1, 2)
	holds(t, c, 0, 3)
	holds(t, c, 1, 4, 9)
	holds(t, d, 0, 5, 3, 4)
	holds(t, d, 1, 2)
}

func TestNil(t *testing.T) { // P7.2
	var c *chain.Chains
	if c.Push(0, 0) || c.Join(0, 1) || c.Len(0) != 0 || c.Copy() != nil {
		t.Error("nil lists")
	}
	if node, ok := c.Pop(0); node != 0 || ok {
		t.Error("Pop", node, ok)
	}
	if node, ok := c.First(0); node != 0 || ok {
		t.Error("First", node, ok)
	}
	if list, ok := c.Where(0); list != 0 || ok {
		t.Error("Where", list, ok)
	}
	for node := range c.All(0) {
		t.Error("All yields", node)
	}
}

func whereIn(lists [][]int, node int) (int, bool) {
	for list, l := range lists {
		if slices.Contains(l, node) {
			return list, true
		}
	}
	return 0, false
}

// TestAgainstSlices compares random calls with lists that are plain slices.
func TestAgainstSlices(t *testing.T) { // P7.1, P7.2, P7.3
	const nodeCount, listCount = 9, 4
	r := rand.New(rand.NewSource(7))
	c := chain.New(nodeCount, listCount)
	lists := make([][]int, listCount)
	for range 20000 {
		list, node, from := r.Intn(listCount), r.Intn(nodeCount), r.Intn(listCount)
		switch r.Intn(5) {
		case 0, 1, 2:
			_, in := whereIn(lists, node)
			if c.Push(list, node) == in {
				t.Fatal("Push", list, node)
			}
			if !in {
				lists[list] = append(lists[list], node)
			}
		case 3:
			got, ok := c.Pop(list)
			if ok != (len(lists[list]) > 0) || ok && got != lists[list][0] {
				t.Fatal("Pop", list, got, ok)
			}
			if ok {
				lists[list] = lists[list][1:]
			}
		case 4:
			if c.Join(list, from) == (list == from) {
				t.Fatal("Join", list, from)
			}
			if list != from {
				lists[list], lists[from] = slices.Concat(lists[list], lists[from]), nil
			}
		}
		for list, l := range lists {
			holds(t, c, list, l...)
		}
		for node := range nodeCount {
			want, in := whereIn(lists, node)
			if got, ok := c.Where(node); got != want || ok != in {
				t.Fatal("Where", node, got, ok)
			}
		}
		if t.Failed() {
			t.FailNow()
		}
		if r.Intn(100) == 0 {
			c = c.Copy()
		}
	}
}
