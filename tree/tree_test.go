package tree_test

import (
	"math"
	"math/rand"
	"slices"
	"testing"

	"flashlock/api"
	"flashlock/class"
	"flashlock/tree"
)

// of returns a valid class.
func of(id, parent int) api.Class {
	return api.Class{ID: id, Parent: parent, Share: 0.5, Prio: id % 8, Quantum: id, Limit: 1 + id%1024, MinIdle: -id, Bounded: id%2 == 0}
}

// classes returns classes by pairs of IDs and Parents.
func classes(pairs ...int) (l []api.Class) {
	for i := 0; i < len(pairs); i += 2 {
		l = append(l, of(pairs[i], pairs[i+1]))
	}
	return l
}

// line returns n classes, each below the one before it.
func line(n int) (l []api.Class) {
	for i := range n {
		l = append(l, of(i+1, i))
	}
	return l
}

// star returns n classes: the root and all others below it.
func star(n int) []api.Class {
	l := classes(1, 0)
	for i := 2; i <= n; i++ {
		l = append(l, of(i, 1))
	}
	return l
}

func fails(t *testing.T, want api.Errno, l []api.Class) {
	t.Helper()
	if tr, e := tree.Compile(l); tr != nil || e != want {
		t.Errorf("Compile(%v) = %v, %d, want %d", l, tr, e, want)
	}
}

func compile(t *testing.T, l []api.Class) *tree.Tree {
	t.Helper()
	tr, e := tree.Compile(l)
	if tr == nil || e != api.OK {
		t.Fatalf("Compile(%v) = %v, %d", l, tr, e)
	}
	return tr
}

// level is the Level of a class, as the chapter says it.
func level(l []api.Class, id int) int {
	n := 0
	for _, c := range l {
		if c.Parent == id {
			n = max(n, level(l, c.ID))
		}
	}
	return n + 1
}

// agrees holds a tree against the classes that it was made of.
func agrees(t *testing.T, tr *tree.Tree, l []api.Class) {
	t.Helper()
	var ids, leaves []int
	for _, c := range class.Sorted(l) {
		ids = append(ids, c.ID)
		var children []int
		for _, d := range class.Sorted(l) {
			if d.Parent == c.ID {
				children = append(children, d.ID)
			}
		}
		if children == nil {
			leaves = append(leaves, c.ID)
		}
		if c.Parent == 0 && tr.Root() != c.ID {
			t.Errorf("Root = %d, want %d", tr.Root(), c.ID)
		}
		if got := tr.Children(c.ID); !slices.Equal(got, children) {
			t.Errorf("Children(%d) = %v, want %v", c.ID, got, children)
		}
		if got, ok := tr.Class(c.ID); got != c || !ok {
			t.Errorf("Class(%d) = %v, %t", c.ID, got, ok)
		}
		if tr.Leaf(c.ID) != (children == nil) {
			t.Errorf("Leaf(%d)", c.ID)
		}
		if got := tr.Level(c.ID); got != level(l, c.ID) {
			t.Errorf("Level(%d) = %d, want %d", c.ID, got, level(l, c.ID))
		}
	}
	if tr.Len() != len(l) || !slices.Equal(tr.IDs(), ids) || !slices.Equal(tr.Leaves(), leaves) {
		t.Errorf("%d classes %v, leaves %v, want %v, %v", tr.Len(), tr.IDs(), tr.Leaves(), ids, leaves)
	}
}

// lacks asks for what is no class.
func lacks(t *testing.T, tr *tree.Tree, id int) {
	t.Helper()
	if c, ok := tr.Class(id); c != (api.Class{}) || ok {
		t.Errorf("Class(%d) = %v, %t", id, c, ok)
	}
	if len(tr.Children(id)) > 0 || tr.Leaf(id) || tr.Level(id) != 0 {
		t.Errorf("%d is a class", id)
	}
}

func TestExample(t *testing.T) { // P18.1 P18.2
	l := classes(1, 0, 2, 1, 3, 1, 4, 3)
	tr := compile(t, l)
	if !slices.Equal(tr.Leaves(), []int{2, 4}) || tr.Level(1) != 3 {
		t.Errorf("leaves %v, level %d", tr.Leaves(), tr.Level(1))
	}
	agrees(t, tr, l)
}

func TestNumber(t *testing.T) { // P18.1
	fails(t, api.ErrNone, nil)
	fails(t, api.ErrNone, []api.Class{})
	for _, n := range []int{1, 2, 63, 64} {
		agrees(t, compile(t, star(n)), star(n))
	}
	for _, n := range []int{65, 66, 1000} {
		fails(t, api.ErrFull, star(n))
	}
	bad := star(65)
	bad[0].Share = math.NaN()
	bad[1].ID = bad[2].ID
	fails(t, api.ErrFull, bad)
}

func TestClassErrors(t *testing.T) { // P18.1
	nan, share, prio, limit, span, ring := of(2, 1), of(2, 1), of(2, 1), of(2, 1), of(2, 1), of(2, 2)
	nan.Share, share.Share, prio.Prio, limit.Limit, span.MaxIdle = math.NaN(), 2, 8, 0, -1
	for _, c := range []api.Class{nan, share, prio, limit, span, ring, of(0, 1), of(65536, 1), of(2, -1)} {
		fails(t, class.Right(c), []api.Class{c})
		fails(t, class.Right(c), []api.Class{of(1, 0), c})
		// The first class with an error counts, and its parameters ahead of its ID's repetition.
		fails(t, class.Right(c), []api.Class{of(1, 0), of(2, 1), c})
		fails(t, class.Right(c), []api.Class{c, of(1, 0), of(1, 0)})
		fails(t, api.ErrTwice, []api.Class{of(1, 0), of(1, 0), c})
		// And ahead of what is wrong with their links.
		fails(t, class.Right(c), []api.Class{of(5, 6), of(6, 5), of(7, 99), of(8, 0), of(9, 0), c})
	}
	fails(t, api.ErrTwice, classes(1, 0, 2, 1, 2, 1))
	fails(t, api.ErrTwice, classes(1, 0, 2, 1, 3, 1, 2, 3))
	fails(t, api.ErrTwice, classes(1, 0, 1, 0))
	fails(t, api.ErrTwice, classes(2, 99, 3, 0, 4, 0, 5, 6, 6, 5, 2, 3))
	twice := of(2, 1)
	twice.Share = math.NaN()
	fails(t, api.ErrFloat, []api.Class{of(1, 0), of(2, 1), twice})
}

func TestParents(t *testing.T) { // P18.1
	for _, l := range [][]api.Class{
		classes(1, 2),             // no root, and no such parent
		classes(1, 2, 2, 1),       // no root
		classes(1, 0, 2, 0),       // two
		classes(1, 0, 2, 1, 3, 0), // two, apart
		classes(1, 0, 2, 3),
		classes(1, 0, 2, 1, 3, 65535),
		classes(1, 0, 2, 3, 3, 2, 4, 9),     // a circle too
		classes(1, 0, 5, 0, 2, 3, 3, 2),     // a circle too
		append(line(9), of(20, 0)),          // too deep too
		append(line(9), of(20, 21)),         // too deep too
		classes(1, 0, 2, 1, 3, 2, 4, 5)[1:], // the root is missing
	} {
		fails(t, api.ErrParent, l)
	}
}

func TestCircles(t *testing.T) { // P18.1
	for _, l := range [][]api.Class{
		classes(1, 0, 2, 3, 3, 2),
		classes(2, 3, 3, 2, 1, 0),
		classes(1, 0, 2, 1, 3, 4, 4, 5, 5, 3),
		classes(1, 0, 2, 3, 3, 2, 4, 3), // one that leads into a circle
		append(line(9), of(20, 21), of(21, 20)),
	} {
		fails(t, api.ErrRing, l)
	}
	long := classes(1, 0, 2, 64)
	for i := 3; i <= 64; i++ {
		long = append(long, of(i, i-1))
	}
	fails(t, api.ErrRing, long)
}

func TestDepth(t *testing.T) { // P18.1
	for n := 1; n <= 8; n++ {
		agrees(t, compile(t, line(n)), line(n))
		turned := line(n)
		slices.Reverse(turned)
		agrees(t, compile(t, turned), turned)
	}
	for _, n := range []int{9, 10, 64} {
		fails(t, api.ErrDeep, line(n))
	}
	// The deepest branch counts, wherever it stands.
	fails(t, api.ErrDeep, append(classes(100, 1, 50, 1), line(9)...))
	fails(t, api.ErrDeep, append(line(9), classes(100, 1, 50, 1)...))
}

func TestAnswers(t *testing.T) { // P18.2
	l := classes(65535, 7, 40, 0, 7, 40, 9, 40, 3, 9, 1, 9, 2, 1)
	tr := compile(t, l)
	agrees(t, tr, l)
	if tr.Root() != 40 || tr.Len() != 7 || tr.Level(40) != 4 || tr.Level(7) != 2 || tr.Level(9) != 3 {
		t.Errorf("root %d, %d classes", tr.Root(), tr.Len())
	}
	if got := tr.Children(9); !slices.Equal(got, []int{1, 3}) {
		t.Errorf("Children(9) = %v", got)
	}
	for _, id := range []int{math.MinInt, -1, 0, 4, 8, 41, 65534, 65536, math.MaxInt} {
		lacks(t, tr, id)
	}
	one := compile(t, classes(5, 0))
	if !one.Leaf(5) || one.Level(5) != 1 || one.Root() != 5 || len(one.Children(5)) > 0 {
		t.Error("one class is root and leaf")
	}
	lacks(t, one, 0)
}

func TestNil(t *testing.T) { // P18.2
	var tr *tree.Tree
	if tr.Len() != 0 || tr.Root() != 0 || len(tr.IDs()) > 0 || len(tr.Leaves()) > 0 {
		t.Error("a nil tree has classes")
	}
	for _, id := range []int{-1, 0, 1, 65535} {
		lacks(t, tr, id)
	}
}

func TestOwnership(t *testing.T) { // P18.1 P18.2
	l := append(make([]api.Class, 0, 8), classes(3, 1, 1, 0, 2, 1)...)
	held := slices.Clone(l[:cap(l)])
	tr := compile(t, l)
	for i, c := range l[:cap(l)] {
		if c != held[i] {
			t.Errorf("Compile changed element %d", i)
		}
	}
	clear(l)
	for _, answer := range []func() []int{tr.IDs, tr.Leaves, func() []int { return tr.Children(1) }} {
		clear(answer())
	}
	agrees(t, tr, classes(3, 1, 1, 0, 2, 1))
}

func TestRandom(t *testing.T) { // P18.1 P18.2 P18.3
	rnd := rand.New(rand.NewSource(18))
	seen := map[api.Errno]int{}
	for range 6000 {
		n, reach := 1+rnd.Intn(24), 1+rnd.Intn(8)
		ids := rnd.Perm(200)[:n]
		l := classes(ids[0]+1, 0)
		for i := 1; i < n; i++ {
			l = append(l, of(ids[i]+1, ids[max(0, i-1-rnd.Intn(reach))]+1))
		}
		for range rnd.Intn(3) {
			l[rnd.Intn(n)].Parent = ids[rnd.Intn(n)] + rnd.Intn(2)
		}
		rnd.Shuffle(n, func(i, j int) { l[i], l[j] = l[j], l[i] })
		want := expect(l)
		seen[want]++
		if want != api.OK {
			fails(t, want, l)
			continue
		}
		tr := compile(t, l)
		agrees(t, tr, l)
		shaped(t, tr)
	}
	for _, e := range []api.Errno{api.OK, api.ErrParent, api.ErrRing, api.ErrDeep} {
		if seen[e] < 50 {
			t.Errorf("error %d came %d times", e, seen[e])
		}
	}
}

// expect is the error of classes with distinct IDs, in the plainest way.
func expect(l []api.Class) api.Errno {
	for _, c := range l {
		if e := class.Right(c); e != api.OK {
			return e
		}
	}
	roots := 0
	for _, c := range l {
		if c.Parent == 0 {
			roots++
		} else if class.Find(l, c.Parent) < 0 {
			return api.ErrParent
		}
	}
	if roots != 1 {
		return api.ErrParent
	}
	deepest := 0
	for _, c := range l {
		steps := 1
		for c.Parent != 0 {
			c = l[class.Find(l, c.Parent)]
			if steps++; steps > len(l) {
				return api.ErrRing
			}
		}
		deepest = max(deepest, steps)
	}
	if deepest > 8 {
		return api.ErrDeep
	}
	return api.OK
}

// shaped asks for what follows for every tree.
func shaped(t *testing.T, tr *tree.Tree) { // P18.3
	t.Helper()
	parents := map[int]int{}
	for _, id := range tr.IDs() {
		for _, child := range tr.Children(id) {
			parents[child]++
			if tr.Level(child) >= tr.Level(id) {
				t.Errorf("Level(%d) is not below Level(%d)", child, id)
			}
		}
	}
	for _, id := range tr.IDs() {
		if (id == tr.Root()) != (parents[id] == 0) || parents[id] > 1 {
			t.Errorf("%d is the child of %d classes", id, parents[id])
		}
	}
	if len(tr.Leaves()) == 0 || tr.Level(tr.Root()) > 8 {
		t.Error("no leaf, or too deep")
	}
}
