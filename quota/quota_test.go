package quota_test

import (
	"math"
	"math/rand"
	"testing"

	"flashlock/api"
	"flashlock/class"
	"flashlock/quota"
	"flashlock/rate"
	"flashlock/share"
	"flashlock/tree"
)

const unit = 1.0 / api.Whole

var nobody = []int{math.MinInt, -1, 0, 99, 65535, 65536, math.MaxInt}

var lengths = []int{math.MinInt, -1, 0, 1, 7, 8, 9, 16, 17, 1500, 2040, 2041, 2047, 2048, 2049, math.MaxInt}

// of returns a valid class.
func of(id, parent int, part float64) api.Class {
	return api.Class{ID: id, Parent: parent, Share: part, Quantum: 1, Limit: 1}
}

func compile(t *testing.T, l ...api.Class) *tree.Tree {
	t.Helper()
	tr, e := tree.Compile(l)
	if tr == nil || e != api.OK {
		t.Fatalf("Compile(%v) = %v, %d", l, tr, e)
	}
	return tr
}

func build(t *testing.T, tpb int, l ...api.Class) *quota.Quota {
	t.Helper()
	tr := compile(t, l...)
	q, e := quota.New(tr, tpb)
	if q == nil || e != api.OK || quota.Check(tr) != api.OK {
		t.Fatalf("New(%v, %d) = %v, %d", l, tpb, q, e)
	}
	return q
}

func fails(t *testing.T, want api.Errno, tr *tree.Tree, tpb int) {
	t.Helper()
	if q, e := quota.New(tr, tpb); q != nil || e != want {
		t.Errorf("New with %d = %v, %d, want %d", tpb, q, e, want)
	}
}

func checks(t *testing.T, want api.Errno, l ...api.Class) {
	t.Helper()
	tr := compile(t, l...)
	if e := quota.Check(tr); e != want {
		t.Errorf("Check(%v) = %d, want %d", l, e, want)
	}
	if want == api.OK {
		build(t, 1, l...)
	} else {
		fails(t, want, tr, 1)
	}
}

// same compares floats by their bits.
func same(t *testing.T, what string, got, want float64) {
	t.Helper()
	if !share.Same(got, want) {
		t.Errorf("%s = %v, want %v", what, got, want)
	}
}

func TestCheck(t *testing.T) { // P20.1
	if e := quota.Check(nil); e != api.ErrArg {
		t.Errorf("Check(nil) = %d", e)
	}
	checks(t, api.OK, of(1, 0, 1))
	checks(t, api.OK, of(1, 0, unit))
	checks(t, api.OK, of(1, 0, 1), of(2, 1, 1))
	checks(t, api.OK, of(1, 0, 1), of(2, 1, 0.5), of(3, 1, 0.5))
	checks(t, api.ErrShare, of(1, 0, 1), of(2, 1, 0.5), of(3, 1, 0.5+unit))
	checks(t, api.ErrShare, of(1, 0, 1-unit), of(2, 1, 1))
	checks(t, api.ErrShare, of(1, 0, 1-unit), of(2, 1, 0.5), of(3, 1, 0.5))
	// A class below the root, and one whose ID is smaller than its Parent's.
	checks(t, api.ErrShare, of(1, 0, 1), of(2, 1, 0.25), of(3, 2, 0.25), of(4, 2, unit))
	checks(t, api.ErrShare, of(9, 0, 1), of(8, 9, 0.25), of(7, 8, 0.5))
	checks(t, api.OK, of(9, 0, 1), of(8, 9, 0.25), of(7, 8, 0.25))
	// Grandchildren do not count among the children.
	checks(t, api.OK, of(1, 0, 0.5), of(2, 1, 0.5), of(3, 2, 0.5), of(4, 3, 0.5))
}

func TestCheckUnits(t *testing.T) { // P20.1
	// It is the units that are added, not the shares: ties go to even.
	checks(t, api.OK, of(1, 0, 2*unit), of(2, 1, 1.4*unit), of(3, 1, 1.4*unit))
	checks(t, api.OK, of(1, 0, 4*unit), of(2, 1, 2.5*unit), of(3, 1, 2.5*unit))
	checks(t, api.ErrShare, of(1, 0, 3*unit), of(2, 1, 1.5*unit), of(3, 1, 1.5*unit))
	checks(t, api.ErrShare, of(1, 0, 2.4*unit), of(2, 1, 0.6*unit), of(3, 1, 0.6*unit), of(4, 1, 0.6*unit))
	third := 1.0 / 3
	checks(t, api.OK, of(1, 0, 1), of(2, 1, third), of(3, 1, third), of(4, 1, third))
	// 63 children fill the link, or exceed it by a unit.
	l := []api.Class{of(1, 0, 63*1024*unit)}
	for id := 2; id <= 64; id++ {
		l = append(l, of(id, 1, 1024*unit))
	}
	checks(t, api.OK, l...)
	l[63].Share += unit
	checks(t, api.ErrShare, l...)
}

func TestNew(t *testing.T) { // P20.1
	right := compile(t, of(1, 0, 1), of(2, 1, 0.5))
	wrong := compile(t, of(1, 0, 0.5), of(2, 1, 1))
	for _, tpb := range []int{math.MinInt, -1, 0, api.MaxTpb + 1, math.MaxInt} {
		fails(t, api.ErrRange, right, tpb)
		fails(t, api.ErrShare, wrong, tpb)
		fails(t, api.ErrArg, nil, tpb)
	}
	for _, tpb := range []int{1, 2, api.MaxTpb - 1, api.MaxTpb} {
		build(t, tpb, of(1, 0, 1), of(2, 1, 0.5))
		fails(t, api.ErrShare, wrong, tpb)
		fails(t, api.ErrArg, nil, tpb)
	}
}

func TestExample(t *testing.T) { // P20.2
	q := build(t, 10, of(1, 0, 1), of(2, 1, 0.5), of(3, 1, 0.25))
	if q.Spare(1) != 262144 || q.Spare(2) != 524288 || q.Spare(3) != 262144 {
		t.Errorf("Spare = %d, %d, %d", q.Spare(1), q.Spare(2), q.Spare(3))
	}
	if q.Units(1) != 1<<20 || q.Units(2) != 1<<19 || q.Units(3) != 1<<18 {
		t.Errorf("Units = %d, %d, %d", q.Units(1), q.Units(2), q.Units(3))
	}
	if q.Time(1, 8) != 80 || q.Time(2, 8) != 160 || q.Time(3, 8) != 320 || q.Time(3, 9) != 640 {
		t.Errorf("Time = %d, %d, %d, %d", q.Time(1, 8), q.Time(2, 8), q.Time(3, 8), q.Time(3, 9))
	}
	same(t, "Part(1)", q.Part(1), 1)
	same(t, "Part(2)", q.Part(2), 0.5)
	same(t, "Part(3)", q.Part(3), 0.25)
	same(t, "Given", q.Given(), 0.75)
}

func TestPart(t *testing.T) { // P20.2
	// A Part is that of the units, not the Share itself.
	q := build(t, 1, of(1, 0, 0.1), of(2, 1, 1.0/30))
	same(t, "Part(1)", q.Part(1), 104858*unit)
	same(t, "Part(2)", q.Part(2), 34953*unit)
	same(t, "Given", q.Given(), 34953*unit)
	if q.Units(1) != 104858 || q.Units(2) != 34953 || q.Spare(1) != 104858-34953 {
		t.Errorf("%d, %d, %d", q.Units(1), q.Units(2), q.Spare(1))
	}
}

func TestGiven(t *testing.T) { // P20.2
	same(t, "Given of a root", build(t, 1, of(7, 0, 0.5)).Given(), 0.5)
	// The leaves' Parts only.
	same(t, "Given", build(t, 1, of(1, 0, 1), of(2, 1, 0.5), of(3, 2, 0.25), of(4, 2, 0.125), of(5, 1, unit)).Given(), 0.375+unit)
}

func TestNobody(t *testing.T) { // P20.2 P6
	none := (*quota.Quota)(nil)
	q := build(t, 1, of(1, 0, 1), of(2, 1, 0.5))
	for _, id := range append(nobody, 1, 2) {
		quotas := []*quota.Quota{none}
		if id != 1 && id != 2 {
			quotas = append(quotas, q)
		}
		for _, q := range quotas {
			if q.Units(id) != 0 || q.Spare(id) != 0 {
				t.Errorf("Units and Spare of %d = %d, %d", id, q.Units(id), q.Spare(id))
			}
			same(t, "Part", q.Part(id), 0)
			for _, n := range lengths {
				if q.Time(id, n) != 0 {
					t.Errorf("Time(%d, %d) = %d", id, n, q.Time(id, n))
				}
			}
		}
	}
	same(t, "Given", none.Given(), 0)
}

func TestTimeBounds(t *testing.T) { // P20.2
	q := build(t, api.MaxTpb, of(1, 0, 1), of(2, 1, unit), of(3, 1, unit), of(4, 1, 3*unit))
	for _, n := range lengths {
		for id, units := range map[int]int{1: api.Whole, 2: 1, 3: 1, 4: 3} {
			if got, want := q.Time(id, n), rate.Exact(api.MaxTpb, units, n); got != want {
				t.Errorf("Time(%d, %d) = %d, want %d", id, n, got, want)
			}
		}
	}
	if q.Time(2, 2048) != 1<<51 || q.Time(1, 2048) != 1<<31 || q.Time(1, 0) != 0 || q.Time(1, -1) != 0 || q.Time(2, 4096) != 1<<51 {
		t.Errorf("Time = %d, %d, %d, %d, %d", q.Time(2, 2048), q.Time(1, 2048), q.Time(1, 0), q.Time(1, -1), q.Time(2, 4096))
	}
}

func TestIndependent(t *testing.T) { // P20.2
	// Quotas of one tree with different times per byte have their own times.
	tr := compile(t, of(1, 0, 1), of(2, 1, 0.5))
	a, _ := quota.New(tr, 1)
	b, _ := quota.New(tr, 3)
	if a.Time(1, 8) != 8 || b.Time(1, 8) != 24 || a.Time(2, 8) != 16 || b.Time(2, 8) != 48 {
		t.Errorf("Time = %d, %d, %d, %d", a.Time(1, 8), b.Time(1, 8), a.Time(2, 8), b.Time(2, 8))
	}
}

// random returns classes of which each child has a part of what its Parent has left, sometimes more than that.
func random(rnd *rand.Rand) []api.Class {
	l := []api.Class{of(100, 0, []float64{1, 0.3, 1.0 / 7}[rnd.Intn(3)])}
	left := []float64{l[0].Share}
	for _, id := range rnd.Perm(99)[:1+rnd.Intn(20)] {
		above := rnd.Intn(len(l))
		part := left[above] * rnd.Float64()
		if rnd.Intn(40) == 0 {
			part = left[above] + unit
		}
		if part < unit || part > 1 {
			continue
		}
		left[above] -= part
		l = append(l, of(id+1, l[above].ID, part))
		left = append(left, part)
	}
	return l
}

// expect is what the chapter says of one class, by the list of classes.
func expect(l []api.Class, id int) (units, spare int, leaf bool) {
	units = class.Units(l[class.Find(l, id)])
	spare, leaf = units, true
	for _, c := range l {
		if c.Parent == id {
			spare -= class.Units(c)
			leaf = false
		}
	}
	return units, spare, leaf
}

func TestAgainstLists(t *testing.T) { // P20.1 P20.2 P20.3
	rnd := rand.New(rand.NewSource(20))
	seen := map[api.Errno]int{}
	for range 400 {
		l := random(rnd)
		tr, e := tree.Compile(l)
		if e != api.OK {
			continue
		}
		want := api.OK
		for _, c := range l {
			if _, spare, _ := expect(l, c.ID); spare < 0 {
				want = api.ErrShare
			}
		}
		seen[want]++
		checks(t, want, l...)
		if want == api.OK {
			tpb := 1 + rnd.Intn(api.MaxTpb)
			q, _ := quota.New(tr, tpb)
			agrees(t, q, tpb, l)
		}
	}
	if seen[api.OK] < 30 || seen[api.ErrShare] < 30 {
		t.Errorf("seen %v", seen)
	}
}

// agrees holds quotas against the classes that they were made of.
func agrees(t *testing.T, q *quota.Quota, tpb int, l []api.Class) {
	t.Helper()
	given, leaves := 0.0, 0
	for _, c := range class.Sorted(l) {
		units, spare, leaf := expect(l, c.ID)
		if q.Units(c.ID) != units || q.Spare(c.ID) != spare || spare < 0 {
			t.Fatalf("%v: Units and Spare of %d = %d, %d", l, c.ID, q.Units(c.ID), q.Spare(c.ID))
		}
		same(t, "Part", q.Part(c.ID), share.Of(units))
		if leaf {
			given += share.Of(units)
			leaves += q.Units(c.ID)
		}
		for _, n := range lengths {
			got := q.Time(c.ID, n)
			if got != rate.Exact(tpb, units, n) {
				t.Fatalf("Time(%d, %d) = %d with %d, %d", c.ID, n, got, tpb, units)
			}
			if c.Parent != 0 && got < q.Time(c.Parent, n) {
				t.Fatalf("%d is faster than its parent with %d bytes", c.ID, n)
			}
		}
	}
	same(t, "Given", q.Given(), given)
	if root := l[0]; leaves > q.Units(root.ID) {
		t.Errorf("%v: the leaves have %d units", l, leaves)
	}
}
