package paths_test

import (
	"math"
	"math/rand"
	"slices"
	"testing"

	"flashlock/api"
	"flashlock/class"
	"flashlock/paths"
	"flashlock/tree"
)

// kind tells whether a class borrows, and why not.
type kind int

const (
	free kind = iota
	bounded
	isolated
	both
)

var nobody = []int{math.MinInt, -1, 0, 99, 65535, 65536, math.MaxInt}

// of returns a valid class.
func of(id, parent int, k kind) api.Class {
	return api.Class{ID: id, Parent: parent, Share: 0.5, Quantum: 1, Limit: 1, Bounded: k == bounded || k == both, Isolated: k == isolated || k == both}
}

func compile(t *testing.T, l ...api.Class) *tree.Tree {
	t.Helper()
	tr, e := tree.Compile(l)
	if tr == nil || e != api.OK {
		t.Fatalf("Compile(%v) = %v, %d", l, tr, e)
	}
	return tr
}

// sample is a root 50 with the children 20 and 30; 10 and 40 are below 20, 5 below 40, 60 below 30.
func sample(t *testing.T) *tree.Tree {
	t.Helper()
	return compile(t, of(40, 20, free), of(50, 0, free), of(5, 40, free), of(20, 50, free), of(30, 50, free), of(10, 20, free), of(60, 30, free))
}

func equal(t *testing.T, what string, got []int, want ...int) {
	t.Helper()
	if !slices.Equal(got, want) {
		t.Errorf("%s = %v, want %v", what, got, want)
	}
}

func TestPath(t *testing.T) { // P19.1
	tr := sample(t)
	wants := [][]int{{50}, {20, 50}, {30, 50}, {10, 20, 50}, {40, 20, 50}, {5, 40, 20, 50}, {60, 30, 50}}
	for _, want := range wants {
		equal(t, "Path", paths.Path(tr, want[0]), want...)
		equal(t, "Up", slices.Collect(paths.Up(tr, want[0])), want...)
	}
	one := compile(t, of(65535, 0, both))
	equal(t, "Path of the only class", paths.Path(one, 65535), 65535)
}

func TestPathDeep(t *testing.T) { // P19.1
	var l []api.Class
	for i := range api.MaxLevel {
		l = append(l, of(i+1, i, free))
	}
	tr := compile(t, l...)
	equal(t, "Path", paths.Path(tr, 8), 8, 7, 6, 5, 4, 3, 2, 1)
	equal(t, "Lenders", paths.Lenders(tr, 8), 7, 6, 5, 4, 3, 2, 1)
	equal(t, "Below", paths.Below(tr, 1), 8)
}

func TestUp(t *testing.T) { // P19.1
	up := paths.Up(sample(t), 5)
	// A loop may end early, and another one begins anew.
	for stop := range 4 {
		var seen []int
		for id := range up {
			seen = append(seen, id)
			if len(seen) > stop {
				break
			}
		}
		equal(t, "Up", seen, []int{5, 40, 20, 50}[:stop+1]...)
	}
	for a := range up {
		equal(t, "Up within Up", slices.Collect(up), 5, 40, 20, 50)
		if a == 20 {
			break
		}
	}
}

func TestUnder(t *testing.T) { // P19.1
	tr := sample(t)
	under := map[int][]int{50: {50}, 20: {20, 50}, 30: {30, 50}, 10: {10, 20, 50}, 40: {40, 20, 50}, 5: {5, 40, 20, 50}, 60: {60, 30, 50}}
	for _, id := range tr.IDs() {
		for _, above := range slices.Concat(tr.IDs(), nobody) {
			if got := paths.Under(tr, id, above); got != slices.Contains(under[id], above) {
				t.Errorf("Under(%d, %d) = %t", id, above, got)
			}
		}
	}
}

func TestMeet(t *testing.T) { // P19.1
	tr := sample(t)
	wants := [][3]int{
		{10, 40, 20}, {10, 5, 20}, {5, 10, 20}, {5, 40, 40}, {40, 5, 40}, {5, 60, 50}, {60, 5, 50},
		{20, 10, 20}, {20, 30, 50}, {50, 5, 50}, {5, 50, 50}, {5, 5, 5}, {50, 50, 50}, {10, 60, 50},
	}
	for _, want := range wants {
		if got := paths.Meet(tr, want[0], want[1]); got != want[2] {
			t.Errorf("Meet(%d, %d) = %d, want %d", want[0], want[1], got, want[2])
		}
	}
}

func TestBelow(t *testing.T) { // P19.1
	tr := sample(t)
	equal(t, "Below(50)", paths.Below(tr, 50), 5, 10, 60)
	equal(t, "Below(20)", paths.Below(tr, 20), 5, 10)
	equal(t, "Below(40)", paths.Below(tr, 40), 5)
	equal(t, "Below(30)", paths.Below(tr, 30), 60)
	for _, leaf := range tr.Leaves() {
		equal(t, "Below of a leaf", paths.Below(tr, leaf), leaf)
	}
	equal(t, "Below of the only class", paths.Below(compile(t, of(7, 0, free)), 7), 7)
}

func TestNobody(t *testing.T) { // P19.1 P19.2 P6
	isolate := compile(t, of(1, 0, free), of(2, 1, isolated), of(3, 2, free))
	for _, tr := range []*tree.Tree{isolate, nil} {
		for _, id := range slices.Concat(nobody, []int{1, 2, 3}) {
			if tr != nil && id >= 1 && id <= 3 {
				continue
			}
			equal(t, "Path", paths.Path(tr, id))
			for at := range paths.Up(tr, id) {
				t.Errorf("Up(%d) yields %d", id, at)
			}
			equal(t, "Below", paths.Below(tr, id))
			equal(t, "Lenders", paths.Lenders(tr, id))
			for _, other := range []int{1, 2, 3, 0, 99, id} {
				if paths.Under(tr, id, other) || paths.Under(tr, other, id) {
					t.Errorf("Under of %d and %d", id, other)
				}
				if paths.Meet(tr, id, other) != 0 || paths.Meet(tr, other, id) != 0 {
					t.Errorf("Meet of %d and %d", id, other)
				}
				if paths.Apart(tr, id, other) {
					t.Errorf("%d is apart from %d", id, other)
				}
			}
			// What is no class has no Path, and so no Isolated class on it.
			for other, want := range map[int]bool{1: false, 2: true, 3: true} {
				if got := paths.Apart(tr, other, id); got != (want && tr != nil) {
					t.Errorf("Apart(%d, %d) = %t", other, id, got)
				}
			}
		}
	}
}

func TestLenders(t *testing.T) { // P19.2
	lends := func(root, middle, leaf kind, want ...int) {
		t.Helper()
		tr := compile(t, of(1, 0, root), of(2, 1, middle), of(3, 2, leaf))
		equal(t, "Lenders of 3", paths.Lenders(tr, 3), want...)
	}
	lends(free, free, free, 2, 1)
	for _, k := range []kind{bounded, isolated, both} {
		// Whether the root borrows has no effect, for it has no Parent.
		lends(k, free, free, 2, 1)
		lends(free, k, free, 2)
		lends(free, free, k)
		lends(k, k, k)
		tr := compile(t, of(1, 0, free), of(2, 1, k), of(3, 2, free))
		equal(t, "Lenders of 2", paths.Lenders(tr, 2))
		equal(t, "Lenders of 1", paths.Lenders(tr, 1))
		tr = compile(t, of(1, 0, k), of(2, 1, free), of(3, 1, k))
		equal(t, "Lenders of 2", paths.Lenders(tr, 2), 1)
		equal(t, "Lenders of 1", paths.Lenders(tr, 1))
	}
	equal(t, "Lenders of 5", paths.Lenders(sample(t), 5), 40, 20, 50)
	equal(t, "Lenders of 60", paths.Lenders(sample(t), 60), 30, 50)
}

func TestApart(t *testing.T) { // P19.2
	// 1 is the root; 2 and 3 are below it, 4 and 5 below 2, 6 below 3.
	build := func(kinds map[int]kind) *tree.Tree {
		parents := []int{0, 0, 1, 1, 2, 2, 3}
		var l []api.Class
		for id := 1; id < len(parents); id++ {
			l = append(l, of(id, parents[id], kinds[id]))
		}
		return compile(t, l...)
	}
	apart := func(kinds map[int]kind, want ...[2]int) {
		t.Helper()
		tr := build(kinds)
		for a := 1; a <= 6; a++ {
			for b := 1; b <= 6; b++ {
				if got := paths.Apart(tr, a, b); got != slices.Contains(want, [2]int{a, b}) {
					t.Errorf("%v: Apart(%d, %d) = %t", kinds, a, b, got)
				}
			}
		}
	}
	apart(nil)
	// A Bounded class is not apart for that.
	apart(map[int]kind{2: bounded, 4: bounded, 3: bounded})
	// The root is on all Paths.
	apart(map[int]kind{1: isolated})
	for _, k := range []kind{isolated, both} {
		apart(map[int]kind{2: k}, [2]int{2, 1}, [2]int{2, 3}, [2]int{2, 6}, [2]int{4, 1}, [2]int{4, 3}, [2]int{4, 6}, [2]int{5, 1}, [2]int{5, 3}, [2]int{5, 6})
		apart(map[int]kind{4: k}, [2]int{4, 1}, [2]int{4, 2}, [2]int{4, 3}, [2]int{4, 5}, [2]int{4, 6})
	}
}

// random returns classes of a tree and the tree.
func random(t *testing.T, rnd *rand.Rand) ([]api.Class, *tree.Tree) {
	for {
		ids := rnd.Perm(200)[:1+rnd.Intn(20)]
		var l []api.Class
		for i, id := range ids {
			parent := 0
			if i > 0 {
				parent = ids[rnd.Intn(i)] + 1
			}
			l = append(l, of(id+1, parent, max(free, kind(rnd.Intn(7)-3))))
		}
		rnd.Shuffle(len(l), func(i, j int) { l[i], l[j] = l[j], l[i] })
		if tr, e := tree.Compile(l); e == api.OK {
			return l, tr
		}
	}
}

// walk is the Path by the list of classes.
func walk(l []api.Class, id int) (path []int) {
	for i := class.Find(l, id); i >= 0; i = class.Find(l, l[i].Parent) {
		path = append(path, l[i].ID)
	}
	return path
}

// lenders is what P19.2 says, by the list of classes.
func lenders(l []api.Class, id int) (ids []int) {
	i := class.Find(l, id)
	for i >= 0 && class.Borrows(l[i]) && l[i].Parent != 0 {
		ids = append(ids, l[i].Parent)
		i = class.Find(l, l[i].Parent)
	}
	return ids
}

func TestAgainstLists(t *testing.T) { // P19.1 P19.2
	rnd := rand.New(rand.NewSource(19))
	for range 300 {
		l, tr := random(t, rnd)
		for _, a := range append(tr.IDs(), 0, 500) {
			up := walk(l, a)
			equal(t, "Path", paths.Path(tr, a), up...)
			equal(t, "Lenders", paths.Lenders(tr, a), lenders(l, a)...)
			var below []int
			for _, leaf := range tr.Leaves() {
				if slices.Contains(walk(l, leaf), a) {
					below = append(below, leaf)
				}
			}
			equal(t, "Below", paths.Below(tr, a), below...)
			for _, b := range append(tr.IDs(), 0, 500) {
				over := walk(l, b)
				meet, apart := 0, false
				for _, id := range slices.Backward(up) {
					if slices.Contains(over, id) {
						meet = id
					} else if l[class.Find(l, id)].Isolated {
						apart = true
					}
				}
				if paths.Under(tr, a, b) != slices.Contains(up, b) || paths.Meet(tr, a, b) != meet || paths.Apart(tr, a, b) != apart {
					t.Fatalf("%v: Under, Meet or Apart of %d and %d", l, a, b)
				}
			}
		}
	}
}

func TestDerived(t *testing.T) { // P19.3
	rnd := rand.New(rand.NewSource(193))
	for range 100 {
		l, tr := random(t, rnd)
		for _, a := range tr.IDs() {
			for _, b := range tr.IDs() {
				if meet := paths.Meet(tr, a, b); !paths.Under(tr, a, meet) || !paths.Under(tr, b, meet) {
					t.Fatalf("%v: %d and %d are not under %d", l, a, b, meet)
				}
				for _, c := range tr.IDs() {
					if paths.Under(tr, a, b) && paths.Under(tr, b, c) && !paths.Under(tr, a, c) {
						t.Fatalf("%v: %d is under %d, and that under %d", l, a, b, c)
					}
				}
			}
			for _, lender := range paths.Lenders(tr, a) {
				for at := range paths.Up(tr, a) {
					if at == lender {
						break
					}
					if c, _ := tr.Class(at); !class.Borrows(c) {
						t.Fatalf("%v: %d borrows from %d past %d", l, a, lender, at)
					}
				}
			}
		}
	}
}
