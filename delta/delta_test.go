package delta_test

import (
	"math"
	"math/rand"
	"slices"
	"testing"

	"flashlock/api"
	"flashlock/class"
	"flashlock/config"
	"flashlock/delta"
	"flashlock/edit"
)

var (
	all  = api.Span{High: 65535}
	wild = []int{math.MinInt, math.MinInt32, -1, 0, 1, 2, 3, 64, 65535, 65536, math.MaxInt32, math.MaxInt}
)

// of returns a class below 1, which is the root.
func of(id int) api.Class {
	c := api.Class{ID: id, Parent: 1, Share: 1.0 / 256, Quantum: 100, Limit: 10}
	if id == 1 {
		c.Parent, c.Share = 0, 1
	}
	return c
}

// marked returns of(id) with another Quantum.
func marked(id, quantum int) api.Class {
	c := of(id)
	c.Quantum = quantum
	return c
}

func classes(ids ...int) []api.Class {
	var l []api.Class
	for _, id := range ids {
		l = append(l, of(id))
	}
	return l
}

// wide returns a filter that matches everything.
func wide(id, leaf int) api.Filter {
	return api.Filter{ID: id, Proto: -1, SrcPorts: all, DstPorts: all, Leaf: leaf}
}

func withClass(op int, c api.Class) api.Edit   { return api.Edit{Op: op, Class: c} }
func withFilter(op int, f api.Filter) api.Edit { return api.Edit{Op: op, Filter: f} }
func withID(op, id int) api.Edit               { return api.Edit{Op: op, ID: id} }

// base is the root 1 with the leaves 2 and 3, and a filter for each.
func base() api.Config {
	return api.Config{
		Tpb: 10, Rule: 1, Default: 2,
		Classes: classes(1, 2, 3),
		Filters: []api.Filter{wide(20, 2), wide(30, 3)},
	}
}

func clone(c api.Config) api.Config {
	c.Classes, c.Filters = slices.Clone(c.Classes), slices.Clone(c.Filters)
	return c
}

// with returns base as it is after change.
func with(change func(c *api.Config)) api.Config {
	c := base()
	change(&c)
	return c
}

// equal reports whether both have the same elements in the same order.
func equal(a, b api.Config) bool {
	return a.Tpb == b.Tpb && a.Rule == b.Rule && a.Default == b.Default &&
		slices.EqualFunc(a.Classes, b.Classes, class.Same) && slices.Equal(a.Filters, b.Filters)
}

// roomy returns l with spare capacity, which is filled with x.
func roomy[T any](l []T, x T) []T {
	long := append(slices.Clone(l), x, x, x)
	return long[:len(l)]
}

// yields checks the edits from a to b, and that the arguments are as before.
func yields(t *testing.T, a, b api.Config, want ...api.Edit) {
	t.Helper()
	before, after := clone(a), clone(b)
	got, ok := delta.Of(a, b)
	if !ok || !slices.EqualFunc(got, want, edit.Same) {
		t.Errorf("Of = %+v, %v, not %+v", got, ok, want)
	}
	if n := delta.Many(a, b); n != len(want) {
		t.Errorf("Many = %d, not %d", n, len(want))
	}
	if back, ok := delta.Back(b, a); !ok || !slices.EqualFunc(back, want, edit.Same) {
		t.Errorf("Back = %+v, %v, not %+v", back, ok, want)
	}
	if !equal(a, before) || !equal(b, after) {
		t.Error("the arguments are changed")
	}
}

// fails checks that there are no edits from a to b.
func fails(t *testing.T, what string, a, b api.Config) {
	t.Helper()
	if l, ok := delta.Of(a, b); len(l) != 0 || ok {
		t.Errorf("%s: Of = %+v, %v", what, l, ok)
	}
	if l, ok := delta.Back(b, a); len(l) != 0 || ok {
		t.Errorf("%s: Back = %+v, %v", what, l, ok)
	}
	if n := delta.Many(a, b); n != 0 {
		t.Errorf("%s: Many = %d", what, n)
	}
}

// leads checks that the edits, applied to a so many at a time, yield what is the Same as b.
func leads(t *testing.T, a, b api.Config, atOnce int) {
	t.Helper()
	l, ok := delta.Of(a, b)
	if !ok {
		t.Fatal("Of = false")
	}
	c := a
	for part := range slices.Chunk(l, atOnce) {
		next, steps, e := edit.Apply(c, part)
		if e != api.OK || len(steps) != 0 {
			t.Fatalf("Apply = %v, %d", steps, e)
		}
		c = next
	}
	if !config.Same(c, b) {
		t.Errorf("%d at a time, %+v lead to %+v, not to %+v", atOnce, l, c, b)
	}
}

func TestExample(t *testing.T) { // P23.1, P23.2
	yields(t, base(), base())
	one := api.Config{Tpb: 1, Default: 1, Classes: classes(1)}
	yields(t, one, one)
}

func TestTpbs(t *testing.T) { // P23.1
	for _, tpb := range []int{1, 9, 11, 1 << 20} {
		b := with(func(c *api.Config) { c.Tpb = tpb })
		fails(t, "other Tpb", base(), b)
		fails(t, "other Tpb", b, base())
		b.Rule = 2
		fails(t, "other Tpb and Rule", base(), b)
	}
}

// invalid returns configurations that are not valid, most of them with the Tpb of base.
func invalid() []api.Config {
	return []api.Config{
		{},
		{Tpb: 10},
		with(func(c *api.Config) { c.Tpb = 0 }),
		with(func(c *api.Config) { c.Tpb = 1<<20 + 1 }),
		with(func(c *api.Config) { c.Rule = -1 }),
		with(func(c *api.Config) { c.Rule = 3 }),
		with(func(c *api.Config) { c.Default = 0 }),
		with(func(c *api.Config) { c.Default = 1 }),
		with(func(c *api.Config) { c.Default = 4 }),
		with(func(c *api.Config) { c.Classes = nil }),
		with(func(c *api.Config) { c.Classes[1].Share = math.NaN() }),
		with(func(c *api.Config) { c.Classes[1].Share = 2 }),
		with(func(c *api.Config) { c.Classes[2].ID = 2 }),
		with(func(c *api.Config) { c.Classes[2].Parent = 7 }),
		with(func(c *api.Config) { c.Classes[0].Share = 1.0 / 1024 }),
		with(func(c *api.Config) { c.Filters[0].Leaf = 1 }),
		with(func(c *api.Config) { c.Filters[1].ID = 20 }),
		with(func(c *api.Config) { c.Filters[1].Proto = 256 }),
		with(func(c *api.Config) { c.Classes = append(c.Classes, classes(sequence(4, 65)...)...) }),
	}
}

// sequence returns the numbers from a to b.
func sequence(a, b int) []int {
	var l []int
	for n := a; n <= b; n++ {
		l = append(l, n)
	}
	return l
}

func TestInvalid(t *testing.T) { // P23.1
	for _, c := range invalid() {
		if config.Check(c) == api.OK {
			t.Fatalf("valid: %+v", c)
		}
		fails(t, "b not valid", base(), c)
		fails(t, "a not valid", c, base())
		fails(t, "neither valid", c, c)
	}
}

func TestGroups(t *testing.T) { // P23.1
	a := base()
	yields(t, a, with(func(c *api.Config) { c.Filters = c.Filters[:1] }), withID(api.DropFilter, 30))
	yields(t, a, with(func(c *api.Config) { c.Filters = nil }), withID(api.DropFilter, 20), withID(api.DropFilter, 30))
	yields(t, a, with(func(c *api.Config) { c.Classes = append(c.Classes, of(4)) }), withClass(api.AddClass, of(4)))
	yields(t, with(func(c *api.Config) { c.Classes = append(c.Classes, of(4)) }), a, withID(api.DropClass, 4))
	yields(t, a, with(func(c *api.Config) { c.Classes[1] = marked(2, 7) }), withClass(api.SetClass, marked(2, 7)))
	yields(t, a, with(func(c *api.Config) { c.Filters[1].Leaf = 2 }), withFilter(api.SetFilter, wide(30, 2)))
	yields(t, a, with(func(c *api.Config) { c.Filters = append(c.Filters, wide(1, 3)) }), withFilter(api.AddFilter, wide(1, 3)))
	yields(t, a, with(func(c *api.Config) { c.Default = 3 }), withID(api.SetDefault, 3))
	yields(t, a, with(func(c *api.Config) { c.Rule = 0 }), withID(api.SetRule, 0))
	yields(t, a, with(func(c *api.Config) { c.Rule = 2 }), withID(api.SetRule, 2))
	yields(t, with(func(c *api.Config) { c.Rule = 0 }), a, withID(api.SetRule, 1))
	// A class and a filter with one ID are two things.
	yields(t, a, with(func(c *api.Config) { c.Classes, c.Filters = append(c.Classes, of(20)), c.Filters[1:] }),
		withID(api.DropFilter, 20), withClass(api.AddClass, of(20)))
}

func TestOrder(t *testing.T) { // P23.1
	a := api.Config{
		Tpb: 10, Rule: 2, Default: 9,
		Classes: []api.Class{of(9), of(4), of(1), of(8), marked(3, 3), of(7), of(2)},
		Filters: []api.Filter{wide(8, 9), wide(5, 9), wide(7, 9), wide(1, 9), wide(6, 9), wide(3, 4)},
	}
	b := api.Config{
		Tpb: 10, Rule: 1, Default: 6,
		Classes: []api.Class{marked(4, 44), of(6), of(3), marked(1, 11), of(10), of(5), of(2)},
		Filters: []api.Filter{wide(9, 6), wide(6, 3), wide(4, 5), wide(1, 2), wide(2, 6), wide(3, 4), wide(5, 10)},
	}
	want := []api.Edit{
		withID(api.DropFilter, 7), withID(api.DropFilter, 8),
		withID(api.DropClass, 7), withID(api.DropClass, 8), withID(api.DropClass, 9),
		withClass(api.SetClass, marked(1, 11)), withClass(api.SetClass, of(3)), withClass(api.SetClass, marked(4, 44)),
		withClass(api.AddClass, of(5)), withClass(api.AddClass, of(6)), withClass(api.AddClass, of(10)),
		withFilter(api.SetFilter, wide(1, 2)), withFilter(api.SetFilter, wide(5, 10)), withFilter(api.SetFilter, wide(6, 3)),
		withFilter(api.AddFilter, wide(2, 6)), withFilter(api.AddFilter, wide(4, 5)), withFilter(api.AddFilter, wide(9, 6)),
		withID(api.SetDefault, 6), withID(api.SetRule, 1),
	}
	yields(t, a, b, want...)
	r := rand.New(rand.NewSource(1))
	for range 20 {
		yields(t, shuffled(r, a), shuffled(r, b), want...)
	}
	for _, n := range []int{1, 2, 7, 64} {
		leads(t, a, b, n)
		leads(t, b, a, n)
	}
}

func shuffled(r *rand.Rand, c api.Config) api.Config {
	c = clone(c)
	r.Shuffle(len(c.Classes), func(i, j int) { c.Classes[i], c.Classes[j] = c.Classes[j], c.Classes[i] })
	r.Shuffle(len(c.Filters), func(i, j int) { c.Filters[i], c.Filters[j] = c.Filters[j], c.Filters[i] })
	return c
}

func TestOtherOrder(t *testing.T) { // P23.2
	r := rand.New(rand.NewSource(2))
	c := api.Config{Tpb: 3, Default: 5, Classes: classes(sequence(1, 9)...), Filters: []api.Filter{wide(3, 4), wide(1, 2), wide(2, 9)}}
	for range 20 {
		yields(t, c, shuffled(r, c))
		yields(t, shuffled(r, c), c)
	}
}

func TestEveryField(t *testing.T) { // P23.1: what differs in any field is another class or filter
	changes := []func(c *api.Class){
		func(c *api.Class) { c.Parent = 3 },
		func(c *api.Class) { c.Share = math.Nextafter(c.Share, 0) },
		func(c *api.Class) { c.Prio = 7 },
		func(c *api.Class) { c.Quantum = 101 },
		func(c *api.Class) { c.Limit = 11 },
		func(c *api.Class) { c.Weight = 1 },
		func(c *api.Class) { c.MinIdle = -1 },
		func(c *api.Class) { c.MaxIdle = 1 },
		func(c *api.Class) { c.Bounded = true },
		func(c *api.Class) { c.Isolated = true },
	}
	a := api.Config{Tpb: 1, Default: 2, Classes: classes(1, 2, 3), Filters: []api.Filter{wide(1, 2)}}
	for i, change := range changes {
		b := clone(a)
		change(&b.Classes[1])
		want := []api.Edit{withClass(api.SetClass, b.Classes[1])}
		if i == 0 {
			b.Classes[2].Share = 0.5
			want = append(want, withClass(api.SetClass, b.Classes[2]))
		}
		yields(t, a, b, want...)
	}
	for _, change := range []func(f *api.Filter){
		func(f *api.Filter) { f.Prio = 1 },
		func(f *api.Filter) { f.Version, f.Src.Lo, f.SrcLen = 4, 1, 32 },
		func(f *api.Filter) { f.Version, f.Dst.Hi, f.DstLen = 6, 1, 64 },
		func(f *api.Filter) { f.Version = 4 },
		func(f *api.Filter) { f.Proto = 6 },
		func(f *api.Filter) { f.SrcPorts.Low = 1 },
		func(f *api.Filter) { f.SrcPorts.High = 1 },
		func(f *api.Filter) { f.DstPorts.Low = 1 },
		func(f *api.Filter) { f.DstPorts.High = 1 },
		func(f *api.Filter) { f.Leaf = 3 },
	} {
		b := clone(a)
		change(&b.Filters[0])
		yields(t, a, b, withFilter(api.SetFilter, b.Filters[0]))
		yields(t, b, a, withFilter(api.SetFilter, a.Filters[0]))
	}
}

// crowd returns a configuration with a root, 63 leaves from that ID on, and 64 filters from the same ID on.
func crowd(from int) api.Config {
	c := api.Config{Tpb: 10, Default: from, Classes: classes(append([]int{1}, sequence(from, from+62)...)...)}
	for n := range 64 {
		c.Filters = append(c.Filters, wide(from+n, from+n%63))
	}
	return c
}

func TestManyEdits(t *testing.T) { // P23.1, P23.2
	a, b := crowd(100), crowd(300)
	b.Rule = 2
	b.Classes[0].Quantum = 5
	l, ok := delta.Of(a, b)
	if want := 64 + 63 + 1 + 63 + 64 + 2; !ok || len(l) != want || delta.Many(a, b) != want {
		t.Fatal(len(l), ok, delta.Many(a, b))
	}
	for i, e := range l[:64] {
		if !edit.Same(e, withID(api.DropFilter, 100+i)) {
			t.Fatalf("edit %d = %+v", i, e)
		}
	}
	for _, n := range []int{1, 7, 63, 64} {
		leads(t, a, b, n)
		leads(t, b, a, n)
	}
	if _, _, e := edit.Apply(a, l); e != api.ErrLong {
		t.Error("all at once:", e)
	}
	// All 64 IDs stay, and all are changed.
	c := clone(a)
	for i := range c.Classes {
		c.Classes[i].Limit++
	}
	for i := range c.Filters {
		c.Filters[i].Prio++
	}
	leads(t, a, c, 64)
	if delta.Many(a, c) != 128 {
		t.Error("Many =", delta.Many(a, c))
	}
}

func TestOwnership(t *testing.T) { // P23.1: neither changed nor kept, the spare capacity included
	a, b := base(), with(func(c *api.Config) {
		c.Classes[2], c.Filters[0] = marked(3, 9), wide(20, 3)
	})
	x, y := a, b
	x.Classes, x.Filters = roomy(a.Classes, of(77)), roomy(a.Filters, wide(77, 1))
	y.Classes, y.Filters = roomy(b.Classes, of(78)), roomy(b.Filters, wide(78, 1))
	l, _ := delta.Of(x, y)
	want := slices.Clone(l)
	for _, c := range []api.Config{x, y} {
		n, m := len(c.Classes), len(c.Filters)
		if c.Classes[:n+1][n].Quantum != 100 || c.Filters[:m+1][m].Leaf != 1 {
			t.Error("the spare capacity is changed")
		}
	}
	y.Classes[2], y.Filters[0] = of(50), wide(50, 2)
	if !slices.EqualFunc(l, want, edit.Same) {
		t.Error("the edits share memory with an argument")
	}
	again, _ := delta.Of(a, b)
	if !slices.EqualFunc(again, want, edit.Same) {
		t.Error("another call returns other edits")
	}
	again[0] = api.Edit{}
	if third, _ := delta.Of(a, b); !slices.EqualFunc(third, want, edit.Same) {
		t.Error("two results share memory")
	}
}

// naive returns the edits from a to b by maps of what has each ID.
func naive(a, b api.Config) []api.Edit {
	had, has := map[int]api.Class{}, map[int]api.Class{}
	knew, knows := map[int]api.Filter{}, map[int]api.Filter{}
	for _, c := range a.Classes {
		had[c.ID] = c
	}
	for _, c := range b.Classes {
		has[c.ID] = c
	}
	for _, f := range a.Filters {
		knew[f.ID] = f
	}
	for _, f := range b.Filters {
		knows[f.ID] = f
	}
	var groups [7][]api.Edit
	for id := range 70 {
		f, before := knew[id]
		g, after := knows[id]
		c, was := had[id]
		d, is := has[id]
		switch {
		case before && !after:
			groups[0] = append(groups[0], withID(api.DropFilter, id))
		case before && after && f != g:
			groups[4] = append(groups[4], withFilter(api.SetFilter, g))
		case !before && after:
			groups[5] = append(groups[5], withFilter(api.AddFilter, g))
		}
		switch {
		case was && !is:
			groups[1] = append(groups[1], withID(api.DropClass, id))
		case was && is && c != d:
			groups[2] = append(groups[2], withClass(api.SetClass, d))
		case !was && is:
			groups[3] = append(groups[3], withClass(api.AddClass, d))
		}
	}
	if a.Default != b.Default {
		groups[6] = append(groups[6], withID(api.SetDefault, b.Default))
	}
	if a.Rule != b.Rule {
		groups[6] = append(groups[6], withID(api.SetRule, b.Rule))
	}
	return slices.Concat(groups[:]...)
}

// random returns a valid configuration in some order.
func random(r *rand.Rand) api.Config {
	size := 2 + r.Intn(8)
	if r.Intn(10) == 0 {
		size = 64
	}
	ids := append([]int{1}, r.Perm(66)[:size-1]...)
	c := api.Config{Tpb: 1 + r.Intn(20)/19, Rule: r.Intn(3), Classes: classes(1)}
	for _, id := range ids[1:] {
		c.Classes = append(c.Classes, marked(id+2, 100+r.Intn(3)))
	}
	c.Default = ids[size-1] + 2
	for _, id := range r.Perm(66)[:size] {
		c.Filters = append(c.Filters, wide(id+1, ids[1+r.Intn(size-1)]+2))
	}
	return shuffled(r, c)
}

func TestSecondImplementation(t *testing.T) { // P23.1, P23.2
	r := rand.New(rand.NewSource(23))
	for range 400 {
		a, b := random(r), random(r)
		if config.Check(a) != api.OK || config.Check(b) != api.OK {
			t.Fatal("not valid")
		}
		if a.Tpb != b.Tpb {
			fails(t, "other Tpb", a, b)
			continue
		}
		if r.Intn(5) == 0 {
			b = shuffled(r, a)
		}
		yields(t, a, b, naive(a, b)...)
		leads(t, a, b, 1+r.Intn(64))
		if none := delta.Many(a, b) == 0; none != config.Same(a, b) {
			t.Fatal("no edits, or the Same, but not both")
		}
	}
}

func TestAnything(t *testing.T) { // P6
	var l []api.Config
	for i, a := range wild {
		b, d := wild[(i+3)%len(wild)], wild[(i+7)%len(wild)]
		l = append(l, api.Config{
			Tpb: a, Rule: b, Default: d,
			Classes: []api.Class{{ID: a, Parent: b, Share: math.NaN()}, {ID: b, Parent: d, Share: math.Inf(1)}, {ID: a}},
			Filters: []api.Filter{{ID: a, Leaf: b}, {ID: a, Leaf: d}, {ID: d, SrcLen: b}},
		})
	}
	l = append(l, invalid()...)
	for _, a := range l {
		for _, b := range l {
			fails(t, "neither valid", a, b)
		}
	}
}
