package edit_test

import (
	"math"
	"math/rand"
	"slices"
	"testing"

	"flashlock/api"
	"flashlock/class"
	"flashlock/config"
	"flashlock/edit"
	"flashlock/filter"
)

var (
	all     = api.Span{High: 65535}
	negZero = math.Copysign(0, -1)
	wild    = []int{math.MinInt, math.MinInt32, -1, 0, 1, 2, 3, 9, 10, 64, 65535, 65536, math.MaxInt32, math.MaxInt}
)

// of returns a valid class.
func of(id int) api.Class { return api.Class{ID: id, Share: 0.5, Quantum: 100, Limit: 10} }

// marked returns a valid class that is told from of(id) by its Quantum.
func marked(id, quantum int) api.Class {
	c := of(id)
	c.Quantum = quantum
	return c
}

// wide returns a valid filter.
func wide(id, leaf int) api.Filter {
	return api.Filter{ID: id, Proto: -1, SrcPorts: all, DstPorts: all, Leaf: leaf}
}

func withClass(op int, c api.Class) api.Edit   { return api.Edit{Op: op, Class: c} }
func withFilter(op int, f api.Filter) api.Edit { return api.Edit{Op: op, Filter: f} }
func withID(op, id int) api.Edit               { return api.Edit{Op: op, ID: id} }
func move(from, to int) api.Edit               { return api.Edit{Op: api.Move, ID: from, To: to} }

// base returns a configuration that is not valid, for Apply does not ask.
func base() api.Config {
	return api.Config{
		Tpb: 7, Rule: 1, Default: 9,
		Classes: []api.Class{of(3), of(1), of(2)},
		Filters: []api.Filter{wide(30, 3), wide(10, 1), wide(20, 2)},
	}
}

func clone(c api.Config) api.Config {
	c.Classes, c.Filters = slices.Clone(c.Classes), slices.Clone(c.Filters)
	return c
}

// equal reports whether both have the same elements in the same order.
func equal(a, b api.Config) bool {
	return a.Tpb == b.Tpb && a.Rule == b.Rule && a.Default == b.Default &&
		slices.EqualFunc(a.Classes, b.Classes, class.Same) && slices.Equal(a.Filters, b.Filters)
}

func right(t *testing.T, e api.Edit, want api.Errno) {
	t.Helper()
	if got := edit.Right(e); got != want {
		t.Errorf("Right(%+v) = %d, not %d", e, got, want)
	}
}

// applies checks that the edits result in that configuration and those steps.
func applies(t *testing.T, c api.Config, l []api.Edit, want api.Config, steps ...edit.Step) {
	t.Helper()
	before, edits := clone(c), slices.Clone(l)
	got, moves, e := edit.Apply(c, l)
	if e != api.OK || !equal(got, want) || !slices.Equal(moves, steps) {
		t.Errorf("Apply(%+v) = %+v, %v, %d, not %+v, %v", l, got, moves, e, want, steps)
	}
	if !equal(c, before) || !slices.EqualFunc(l, edits, edit.Same) {
		t.Errorf("Apply(%+v) changed its arguments", l)
	}
}

func fails(t *testing.T, c api.Config, l []api.Edit, want api.Errno) {
	t.Helper()
	before := clone(c)
	got, moves, e := edit.Apply(c, l)
	if e != want || len(moves) != 0 || !equal(got, api.Config{}) || got.Classes != nil || got.Filters != nil {
		t.Errorf("Apply(%+v) = %+v, %v, %d, not %d", l, got, moves, e, want)
	}
	if !equal(c, before) {
		t.Errorf("Apply(%+v) changed the configuration", l)
	}
}

func TestExample(t *testing.T) { // P22.2
	fails(t, api.Config{}, []api.Edit{withID(api.DropClass, 5)}, api.ErrNone)
	fails(t, base(), []api.Edit{withID(api.DropClass, 5)}, api.ErrNone)
}

func TestRightOp(t *testing.T) { // P22.1
	for _, op := range []int{math.MinInt, -1, 0, 10, 11, math.MaxInt} {
		right(t, api.Edit{Op: op, Class: of(1), Filter: wide(1, 1), ID: 1, To: 1}, api.ErrKind)
	}
	for op := 1; op <= 9; op++ {
		right(t, api.Edit{Op: op, Class: of(1), Filter: wide(1, 1), ID: 1, To: 1}, api.OK)
	}
}

func TestRightClass(t *testing.T) { // P22.1
	bad := []func(c *api.Class){
		func(c *api.Class) { c.ID = 0 },
		func(c *api.Class) { c.ID, c.Parent = 4, 4 },
		func(c *api.Class) { c.Share = math.NaN() },
		func(c *api.Class) { c.Share = math.Inf(1) },
		func(c *api.Class) { c.Share = 0 },
		func(c *api.Class) { c.Share = negZero },
		func(c *api.Class) { c.Prio = 8 },
		func(c *api.Class) { c.Quantum = 0 },
		func(c *api.Class) { c.Limit = 1025 },
		func(c *api.Class) { c.Weight = 17 },
		func(c *api.Class) { c.Prio, c.Limit = 8, 0 },
	}
	for i, change := range bad {
		c := of(4)
		change(&c)
		want := class.Right(c)
		if want == api.OK {
			t.Fatal("a class that is valid:", i)
		}
		right(t, withClass(api.AddClass, c), want)
		right(t, withClass(api.SetClass, c), want)
	}
	// The other fields are not looked at, nor is the class of any other operation.
	for _, op := range []int{api.AddClass, api.SetClass} {
		right(t, api.Edit{Op: op, Class: of(4), ID: -1, To: -1, Filter: api.Filter{ID: -1}}, api.OK)
	}
	for op := api.DropClass; op <= api.Move; op++ {
		right(t, api.Edit{Op: op, Class: api.Class{Share: math.NaN()}, Filter: wide(1, 1), ID: 2, To: 1}, api.OK)
	}
}

func TestRightFilter(t *testing.T) { // P22.1
	bad := []func(f *api.Filter){
		func(f *api.Filter) { f.ID = 0 },
		func(f *api.Filter) { f.Prio = 65536 },
		func(f *api.Filter) { f.Version = 5 },
		func(f *api.Filter) { f.SrcLen = 1 },
		func(f *api.Filter) { f.Proto = 256 },
		func(f *api.Filter) { f.DstPorts.Low = 65536 },
		func(f *api.Filter) { f.Leaf = 0 },
		func(f *api.Filter) { f.Proto, f.Leaf = 256, 0 },
	}
	for i, change := range bad {
		f := wide(4, 1)
		change(&f)
		want := filter.Right(f)
		if want == api.OK {
			t.Fatal("a filter that is valid:", i)
		}
		right(t, withFilter(api.AddFilter, f), want)
		right(t, withFilter(api.SetFilter, f), want)
	}
	for _, op := range []int{api.AddFilter, api.SetFilter} {
		right(t, api.Edit{Op: op, Filter: wide(1, 1), ID: -1, To: -1, Class: api.Class{ID: -1}}, api.OK)
	}
	for _, op := range []int{api.AddClass, api.SetClass, api.DropClass, api.DropFilter, api.SetDefault, api.SetRule, api.Move} {
		right(t, api.Edit{Op: op, Filter: api.Filter{ID: -1}, Class: of(1), ID: 2, To: 1}, api.OK)
	}
}

func TestRightID(t *testing.T) { // P22.1
	for _, op := range []int{api.DropClass, api.DropFilter, api.SetDefault} {
		for _, id := range []int{1, 2, 65534, 65535} {
			right(t, api.Edit{Op: op, ID: id, To: -5}, api.OK)
		}
		for _, id := range []int{math.MinInt, -1, 0, 65536, math.MaxInt} {
			right(t, api.Edit{Op: op, ID: id, To: 1}, api.ErrRange)
		}
	}
	for _, id := range []int{0, 1, 2} {
		right(t, api.Edit{Op: api.SetRule, ID: id, To: -5}, api.OK)
	}
	for _, id := range []int{math.MinInt, -1, 3, 65535, math.MaxInt} {
		right(t, api.Edit{Op: api.SetRule, ID: id, To: 1}, api.ErrKind)
	}
	for _, id := range []int{1, 2, 65535} {
		right(t, move(id, 65535), api.OK)
		right(t, move(65535, id), api.OK)
	}
	for _, id := range []int{math.MinInt, -1, 0, 65536, math.MaxInt} {
		right(t, move(id, 1), api.ErrRange)
		right(t, move(1, id), api.ErrRange)
		right(t, move(id, id), api.ErrRange)
	}
}

func TestSame(t *testing.T) { // P22.1
	a := api.Edit{Op: 1, Class: of(3), Filter: wide(4, 5), ID: 6, To: 7}
	if !edit.Same(a, a) || !edit.Same(api.Edit{}, api.Edit{}) {
		t.Error("an edit differs from itself")
	}
	// Fields that the operation does not use count.
	for i, change := range []func(e *api.Edit){
		func(e *api.Edit) { e.Op = 2 },
		func(e *api.Edit) { e.ID = 5 },
		func(e *api.Edit) { e.To = 5 },
		func(e *api.Edit) { e.Filter.ID = 5 },
		func(e *api.Edit) { e.Filter.Src.Lo = 1 },
		func(e *api.Edit) { e.Filter.DstPorts.High = 5 },
		func(e *api.Edit) { e.Filter.Leaf = 6 },
		func(e *api.Edit) { e.Class.ID = 5 },
		func(e *api.Edit) { e.Class.Share = 0.25 },
		func(e *api.Edit) { e.Class.Isolated = true },
		func(e *api.Edit) { e.Class.MaxIdle = 1 },
	} {
		b := a
		change(&b)
		if edit.Same(a, b) || edit.Same(b, a) {
			t.Errorf("change %d: the same", i)
		}
	}
	nan, zero, minus := a, a, a
	nan.Class.Share, zero.Class.Share, minus.Class.Share = math.NaN(), 0, negZero
	if !edit.Same(nan, nan) || edit.Same(zero, minus) || edit.Same(nan, zero) {
		t.Error("Shares are compared otherwise than by class")
	}
}

func TestClasses(t *testing.T) { // P22.2
	want := base()
	want.Classes = []api.Class{of(3), of(1), of(2), marked(4, 5)}
	applies(t, base(), []api.Edit{withClass(api.AddClass, marked(4, 5))}, want)
	want.Classes = []api.Class{of(3), marked(1, 5), of(2)}
	applies(t, base(), []api.Edit{withClass(api.SetClass, marked(1, 5))}, want)
	want.Classes = []api.Class{of(3), of(2)}
	applies(t, base(), []api.Edit{withID(api.DropClass, 1)}, want)
	want.Classes = []api.Class{of(1), of(2)}
	applies(t, base(), []api.Edit{withID(api.DropClass, 3)}, want)
	want.Classes = []api.Class{of(3), of(1)}
	applies(t, base(), []api.Edit{withID(api.DropClass, 2)}, want)
	want.Classes = []api.Class{marked(3, 6), of(2), marked(1, 5)}
	applies(t, base(), []api.Edit{withID(api.DropClass, 1), withClass(api.AddClass, of(1)), withClass(api.SetClass, marked(3, 6)), withClass(api.SetClass, marked(1, 5))}, want)
	// A class is found by its own ID, a dropped one by the edit's.
	fails(t, base(), []api.Edit{{Op: api.SetClass, Class: of(4), ID: 1}}, api.ErrNone)
	fails(t, base(), []api.Edit{{Op: api.AddClass, Class: of(1), ID: 4}}, api.ErrTwice)
	fails(t, base(), []api.Edit{{Op: api.DropClass, Class: of(1), ID: 4}}, api.ErrNone)
	fails(t, base(), []api.Edit{withID(api.DropClass, 2), withID(api.DropClass, 2)}, api.ErrNone)
	fails(t, base(), []api.Edit{withID(api.DropClass, 2), withClass(api.SetClass, of(2))}, api.ErrNone)
	// The ID of a filter is none of a class.
	fails(t, base(), []api.Edit{withID(api.DropClass, 10)}, api.ErrNone)
	fails(t, base(), []api.Edit{withClass(api.SetClass, of(10))}, api.ErrNone)
}

func TestFilters(t *testing.T) { // P22.2
	want := base()
	want.Filters = []api.Filter{wide(30, 3), wide(10, 1), wide(20, 2), wide(1, 8)}
	applies(t, base(), []api.Edit{withFilter(api.AddFilter, wide(1, 8))}, want)
	want.Filters = []api.Filter{wide(30, 3), wide(10, 8), wide(20, 2)}
	applies(t, base(), []api.Edit{withFilter(api.SetFilter, wide(10, 8))}, want)
	want.Filters = []api.Filter{wide(30, 3), wide(20, 2)}
	applies(t, base(), []api.Edit{withID(api.DropFilter, 10)}, want)
	want.Filters = []api.Filter{wide(10, 1), wide(20, 2)}
	applies(t, base(), []api.Edit{withID(api.DropFilter, 30)}, want)
	want.Filters = nil
	applies(t, base(), []api.Edit{withID(api.DropFilter, 30), withID(api.DropFilter, 20), withID(api.DropFilter, 10)}, want)
	fails(t, base(), []api.Edit{{Op: api.SetFilter, Filter: wide(4, 1), ID: 10}}, api.ErrNone)
	fails(t, base(), []api.Edit{{Op: api.AddFilter, Filter: wide(10, 1), ID: 4}}, api.ErrTwice)
	fails(t, base(), []api.Edit{{Op: api.DropFilter, Filter: wide(10, 1), ID: 4}}, api.ErrNone)
	fails(t, base(), []api.Edit{withID(api.DropFilter, 20), withID(api.DropFilter, 20)}, api.ErrNone)
	fails(t, base(), []api.Edit{withID(api.DropFilter, 1)}, api.ErrNone)
	fails(t, base(), []api.Edit{withFilter(api.SetFilter, wide(2, 1))}, api.ErrNone)
}

func TestOthers(t *testing.T) { // P22.2, P22.3
	applies(t, base(), nil, base())
	applies(t, base(), []api.Edit{}, base())
	applies(t, api.Config{}, nil, api.Config{})
	want := base()
	want.Default = 65535
	applies(t, base(), []api.Edit{{Op: api.SetDefault, ID: 65535, To: 4}}, want)
	want = base()
	for _, rule := range []int{0, 1, 2} {
		want.Rule = rule
		applies(t, base(), []api.Edit{{Op: api.SetRule, ID: rule, To: 4}}, want)
	}
	want.Default, want.Rule = 6, 0
	applies(t, base(), []api.Edit{withID(api.SetRule, 2), withID(api.SetDefault, 5), withID(api.SetRule, 0), withID(api.SetDefault, 6)}, want)
	// What no edit names may be invalid, and stays so.
	odd := api.Config{Tpb: -4, Rule: 77, Default: -1, Classes: []api.Class{{ID: -1, Share: math.NaN()}, {ID: 9, Share: negZero}}, Filters: []api.Filter{{ID: -2, Proto: 999}}}
	applies(t, odd, nil, odd)
	more := clone(odd)
	more.Classes = append(more.Classes, of(5))
	applies(t, odd, []api.Edit{withClass(api.AddClass, of(5))}, more)
}

func TestMoves(t *testing.T) { // P22.2
	applies(t, base(), []api.Edit{move(3, 4)}, base(), edit.Step{From: 3, To: 4})
	applies(t, base(), []api.Edit{move(5, 4), move(3, 4), move(4, 4), move(1, 65535)}, base(),
		edit.Step{From: 5, To: 4}, edit.Step{From: 3, To: 4}, edit.Step{From: 4, To: 4}, edit.Step{From: 1, To: 65535})
	fails(t, base(), []api.Edit{move(3, 4), move(3, 5)}, api.ErrTwice)
	fails(t, base(), []api.Edit{move(3, 4), move(5, 6), move(3, 4)}, api.ErrTwice)
	fails(t, base(), []api.Edit{move(3, 4), move(3, 0)}, api.ErrRange)
	want := base()
	want.Default = 4
	applies(t, base(), []api.Edit{move(3, 4), withID(api.SetDefault, 4), move(4, 3)}, want, edit.Step{From: 3, To: 4}, edit.Step{From: 4, To: 3})
}

func TestTwiceInTheConfiguration(t *testing.T) { // P22.2: IDs that occur twice
	c := api.Config{
		Classes: []api.Class{of(1), marked(2, 5), of(3), marked(2, 6)},
		Filters: []api.Filter{wide(1, 1), wide(2, 5), wide(3, 1), wide(2, 6)},
	}
	want := clone(c)
	want.Classes[1] = marked(2, 7)
	applies(t, c, []api.Edit{withClass(api.SetClass, marked(2, 7))}, want)
	want.Filters[1] = wide(2, 7)
	applies(t, c, []api.Edit{withClass(api.SetClass, marked(2, 7)), withFilter(api.SetFilter, wide(2, 7))}, want)
	want = clone(c)
	want.Classes = []api.Class{of(1), of(3), marked(2, 6)}
	want.Filters = []api.Filter{wide(1, 1), wide(3, 1), wide(2, 6)}
	applies(t, c, []api.Edit{withID(api.DropClass, 2), withID(api.DropFilter, 2)}, want)
	want.Classes, want.Filters = []api.Class{of(1), of(3)}, []api.Filter{wide(1, 1), wide(3, 1)}
	applies(t, c, []api.Edit{withID(api.DropClass, 2), withID(api.DropFilter, 2), withID(api.DropClass, 2), withID(api.DropFilter, 2)}, want)
	fails(t, c, []api.Edit{withID(api.DropClass, 2), withClass(api.AddClass, of(2))}, api.ErrTwice)
	fails(t, c, []api.Edit{withID(api.DropFilter, 2), withFilter(api.AddFilter, wide(2, 2))}, api.ErrTwice)
}

// filled returns a configuration with that many classes and filters, whose IDs begin at 1.
func filled(n int) api.Config {
	var c api.Config
	for id := 1; id <= n; id++ {
		c.Classes = append(c.Classes, of(id))
		c.Filters = append(c.Filters, wide(id, 1))
	}
	return c
}

func TestFull(t *testing.T) { // P22.2: 64 classes or filters
	addClass, addFilter := withClass(api.AddClass, of(100)), withFilter(api.AddFilter, wide(100, 1))
	c := filled(63)
	want := clone(c)
	want.Classes = append(want.Classes, of(100))
	applies(t, c, []api.Edit{addClass}, want)
	want.Filters = append(want.Filters, wide(100, 1))
	applies(t, c, []api.Edit{addClass, addFilter}, want)
	fails(t, c, []api.Edit{addClass, withClass(api.AddClass, of(101))}, api.ErrFull)
	fails(t, c, []api.Edit{addFilter, withFilter(api.AddFilter, wide(101, 1))}, api.ErrFull)
	for _, n := range []int{64, 65, 99} {
		c = filled(n)
		fails(t, c, []api.Edit{addClass}, api.ErrFull)
		fails(t, c, []api.Edit{addFilter}, api.ErrFull)
		// An ID that is there comes first.
		fails(t, c, []api.Edit{withClass(api.AddClass, of(n))}, api.ErrTwice)
		fails(t, c, []api.Edit{withFilter(api.AddFilter, wide(n, 1))}, api.ErrTwice)
		want = clone(c)
		want.Classes[63], want.Filters[63] = marked(64, 9), wide(64, 9)
		applies(t, c, []api.Edit{withClass(api.SetClass, marked(64, 9)), withFilter(api.SetFilter, wide(64, 9))}, want)
	}
	c = filled(64)
	want = clone(c)
	want.Classes = append(want.Classes[1:], of(100))
	want.Filters = append(want.Filters[1:], wide(100, 1))
	applies(t, c, []api.Edit{withID(api.DropClass, 1), addClass, withID(api.DropFilter, 1), addFilter}, want)
	// Full lists of the one kind leave the other alone.
	c.Filters = nil
	want = clone(c)
	want.Filters = []api.Filter{wide(100, 1)}
	applies(t, c, []api.Edit{addFilter}, want)
}

func TestLong(t *testing.T) { // P22.2: 64 and 65 edits
	l := slices.Repeat([]api.Edit{withID(api.SetDefault, 4)}, 63)
	l = append(l, withID(api.SetDefault, 5))
	want := base()
	want.Default = 5
	applies(t, base(), l, want)
	l = append(l, withID(api.SetDefault, 6))
	fails(t, base(), l, api.ErrLong)
	// The length is looked at first of all.
	l[0] = api.Edit{}
	fails(t, base(), l, api.ErrLong)
	fails(t, base(), make([]api.Edit, 1000), api.ErrLong)
	fails(t, base(), make([]api.Edit, 64), api.ErrKind)
	// As many steps as edits are no more than a list may have.
	var moves []api.Edit
	var steps []edit.Step
	for id := 1; id <= 64; id++ {
		moves = append(moves, move(id, 100))
		steps = append(steps, edit.Step{From: id, To: 100})
	}
	applies(t, base(), moves, base(), steps...)
}

func TestFirstError(t *testing.T) { // P22.2: the first edit, and for one edit Right, determine the error
	wrong := map[api.Errno]api.Edit{
		api.ErrKind:  {Op: 10},
		api.ErrRange: move(0, 1),
		api.ErrFloat: withClass(api.AddClass, api.Class{ID: 1, Share: math.NaN()}),
		api.ErrTwice: withClass(api.AddClass, of(1)),
		api.ErrNone:  withID(api.DropFilter, 77),
	}
	for first, a := range wrong {
		for _, b := range wrong {
			fails(t, base(), []api.Edit{a, b}, first)
			fails(t, base(), []api.Edit{withID(api.SetDefault, 2), a, b}, first)
		}
	}
	bad := of(1)
	bad.Prio = 8
	fails(t, base(), []api.Edit{withClass(api.AddClass, bad)}, api.ErrPrio)
	bad.ID = 77
	fails(t, base(), []api.Edit{withClass(api.SetClass, bad)}, api.ErrPrio)
	fails(t, filled(64), []api.Edit{withClass(api.AddClass, bad)}, api.ErrPrio)
	f := wide(10, 0)
	fails(t, base(), []api.Edit{withFilter(api.AddFilter, f)}, api.ErrLeaf)
	f.ID = 77
	fails(t, base(), []api.Edit{withFilter(api.SetFilter, f)}, api.ErrLeaf)
	fails(t, base(), []api.Edit{withID(api.DropClass, 0)}, api.ErrRange)
	fails(t, base(), []api.Edit{withID(api.DropFilter, 65536)}, api.ErrRange)
	fails(t, base(), []api.Edit{withID(api.SetRule, 3)}, api.ErrKind)
	fails(t, base(), []api.Edit{withID(api.SetDefault, 0)}, api.ErrRange)
}

func TestOwnership(t *testing.T) { // P22.2: arguments and answers share nothing, the spare capacity included
	classes := []api.Class{of(1), of(2), of(3), of(4)}
	filters := []api.Filter{wide(1, 1), wide(2, 1), wide(3, 1)}
	l := []api.Edit{withClass(api.AddClass, of(9)), withFilter(api.AddFilter, wide(9, 1)), withID(api.DropClass, 1), withID(api.DropFilter, 1), move(1, 2)}
	c := api.Config{Classes: classes[:2], Filters: filters[:2]}
	got, steps, e := edit.Apply(c, l)
	if e != api.OK || !slices.Equal(classes, []api.Class{of(1), of(2), of(3), of(4)}) || !slices.Equal(filters, []api.Filter{wide(1, 1), wide(2, 1), wide(3, 1)}) {
		t.Fatal("Apply wrote into its arguments:", classes, filters, e)
	}
	same, _, _ := edit.Apply(c, nil)
	clear(got.Classes)
	clear(got.Filters)
	clear(same.Classes)
	clear(same.Filters)
	clear(steps)
	if classes[0] != of(1) || filters[0] != wide(1, 1) || !slices.EqualFunc(l[4:], []api.Edit{move(1, 2)}, edit.Same) {
		t.Error("an answer shares memory with an argument")
	}
}

func TestTo(t *testing.T) { // P22.2
	l := []edit.Step{{From: 3, To: 4}, {From: 5, To: 6}, {From: 3, To: 7}, {From: 4, To: 8}, {From: 0, To: -1}}
	for id, want := range map[int]int{3: 4, 5: 6, 4: 8, 0: -1, 6: 6, 7: 7, -1: -1, math.MaxInt: math.MaxInt, math.MinInt: math.MinInt} {
		if got := edit.To(l, id); got != want {
			t.Errorf("To(%d) = %d, not %d", id, got, want)
		}
	}
	if edit.To(nil, 5) != 5 || edit.To([]edit.Step{}, 0) != 0 {
		t.Error("To of no steps")
	}
}

// naive applies one edit, which is valid, to what it returns.
func naive(c api.Config, steps []edit.Step, e api.Edit) (api.Config, []edit.Step, api.Errno) {
	var classes []api.Class
	var filters []api.Filter
	found := 0
	for _, x := range c.Classes {
		hit := e.Op == api.SetClass && x.ID == e.Class.ID || e.Op == api.DropClass && x.ID == e.ID
		if hit {
			found++
		}
		switch {
		case !hit || found > 1:
			classes = append(classes, x)
		case e.Op == api.SetClass:
			classes = append(classes, e.Class)
		}
		if e.Op == api.AddClass && x.ID == e.Class.ID {
			return api.Config{}, nil, api.ErrTwice
		}
	}
	for _, x := range c.Filters {
		hit := e.Op == api.SetFilter && x.ID == e.Filter.ID || e.Op == api.DropFilter && x.ID == e.ID
		if hit {
			found++
		}
		switch {
		case !hit || found > 1:
			filters = append(filters, x)
		case e.Op == api.SetFilter:
			filters = append(filters, e.Filter)
		}
		if e.Op == api.AddFilter && x.ID == e.Filter.ID {
			return api.Config{}, nil, api.ErrTwice
		}
	}
	switch e.Op {
	case api.AddClass:
		classes = append(classes, e.Class)
	case api.AddFilter:
		filters = append(filters, e.Filter)
	case api.SetDefault:
		c.Default = e.ID
	case api.SetRule:
		c.Rule = e.ID
	case api.Move:
		for _, s := range steps {
			if s.From == e.ID {
				return api.Config{}, nil, api.ErrTwice
			}
		}
		steps = append(steps[:len(steps):len(steps)], edit.Step{From: e.ID, To: e.To})
	default:
		if found == 0 {
			return api.Config{}, nil, api.ErrNone
		}
	}
	if len(classes) > 64 || len(filters) > 64 {
		return api.Config{}, nil, api.ErrFull
	}
	c.Classes, c.Filters = classes, filters
	return c, steps, api.OK
}

// some returns a random edit, most often a valid one.
func some(r *rand.Rand) api.Edit {
	id := 1 + r.Intn(70)
	if r.Intn(400) == 0 {
		id = 0
	}
	e := api.Edit{Op: 1 + r.Intn(9), Class: marked(id, 1+r.Intn(9)), Filter: wide(id, 1+r.Intn(9)), ID: id, To: 1 + r.Intn(9)}
	if e.Op == api.SetRule {
		e.ID = r.Intn(3)
	}
	return e
}

func TestSecondImplementation(t *testing.T) { // P22.2, P22.3
	r := rand.New(rand.NewSource(22))
	wrongs := map[api.Errno]int{}
	for range 4000 {
		c := filled(40 + r.Intn(25))
		r.Shuffle(len(c.Classes), func(i, j int) { c.Classes[i], c.Classes[j] = c.Classes[j], c.Classes[i] })
		l := make([]api.Edit, r.Intn(20))
		for i := range l {
			l[i] = some(r)
		}
		want, steps, wrong := clone(c), []edit.Step(nil), api.OK
		for _, e := range l {
			wrong = edit.Right(e)
			if wrong == api.OK {
				want, steps, wrong = naive(want, steps, e)
			}
			if wrong != api.OK {
				break
			}
		}
		wrongs[wrong]++
		if wrong != api.OK {
			fails(t, c, l, wrong)
			continue
		}
		applies(t, c, l, want, steps...)
	}
	for _, e := range []api.Errno{api.OK, api.ErrTwice, api.ErrNone, api.ErrFull, api.ErrRange} {
		if wrongs[e] < 5 {
			t.Errorf("only %d lists with the error %d", wrongs[e], e)
		}
	}
}

func TestTwoParts(t *testing.T) { // P22.3
	r := rand.New(rand.NewSource(223))
	good := 0
	for range 3000 {
		c, l := filled(60), make([]api.Edit, 1+r.Intn(8))
		from := r.Perm(9)
		for i := range l {
			l[i] = some(r)
			if l[i].Op == api.Move {
				l[i].ID = 1 + from[i]
			}
		}
		whole, steps, wrong := edit.Apply(c, l)
		cut := r.Intn(len(l) + 1)
		half, first, e := edit.Apply(c, l[:cut])
		if e != api.OK {
			if e != wrong {
				t.Fatalf("%+v: %d at once, %d in the first part", l, wrong, e)
			}
			continue
		}
		parts, second, e := edit.Apply(half, l[cut:])
		if e != wrong || !equal(parts, whole) {
			t.Fatalf("%+v cut at %d: %d at once, %d in parts", l, cut, wrong, e)
		}
		if e == api.OK && !slices.Equal(append(first, second...), steps) {
			t.Fatalf("%+v cut at %d: other steps", l, cut)
		}
		if e == api.OK {
			good++
		}
	}
	if good < 300 {
		t.Error("too few lists could be applied:", good)
	}
}

func TestUntouched(t *testing.T) { // P22.3: what no edit names is unchanged
	r := rand.New(rand.NewSource(322))
	for range 2000 {
		c, e := filled(50), some(r)
		c.Tpb, c.Rule, c.Default = 5, 1, 8
		d, _, wrong := edit.Apply(c, []api.Edit{e})
		if wrong != api.OK {
			continue
		}
		named := e.ID
		if e.Op == api.AddClass || e.Op == api.SetClass {
			named = e.Class.ID
		}
		if e.Op == api.AddFilter || e.Op == api.SetFilter {
			named = e.Filter.ID
		}
		for i, x := range c.Classes {
			if at := class.Find(d.Classes, x.ID); (e.Op > api.DropClass || x.ID != named) && (at < 0 || d.Classes[at] != c.Classes[i]) {
				t.Fatalf("%+v changed class %d", e, x.ID)
			}
		}
		for _, f := range c.Filters {
			if (e.Op < api.AddFilter || e.Op > api.DropFilter || f.ID != named) && !slices.Contains(d.Filters, f) {
				t.Fatalf("%+v changed filter %d", e, f.ID)
			}
		}
		if d.Tpb != 5 || e.Op != api.SetRule && d.Rule != 1 || e.Op != api.SetDefault && d.Default != 8 {
			t.Fatalf("%+v changed Tpb, Rule or Default", e)
		}
	}
}

func TestValidConfiguration(t *testing.T) { // P22.2: with the layers below it
	c := api.Config{Tpb: 1, Default: 1, Classes: []api.Class{{ID: 1, Share: 1, Quantum: 1, Limit: 1}}}
	child := of(2)
	child.Parent = 1
	d, _, e := edit.Apply(c, []api.Edit{withClass(api.AddClass, child), withFilter(api.AddFilter, wide(1, 2)), withID(api.SetDefault, 2)})
	if e != api.OK || config.Check(d) != api.OK {
		t.Error(d, e, config.Check(d))
	}
	// Whether the result is valid is not asked.
	d, _, e = edit.Apply(c, []api.Edit{withID(api.DropClass, 1)})
	if e != api.OK || config.Check(d) != api.ErrNone {
		t.Error(d, e)
	}
}

func TestAnything(t *testing.T) { // P6
	var odd api.Config
	for _, n := range wild {
		odd.Classes = append(odd.Classes, api.Class{ID: n, Parent: n, Share: math.NaN(), Limit: n})
		odd.Filters = append(odd.Filters, api.Filter{ID: n, Version: n, SrcLen: n, Leaf: n})
	}
	for _, op := range wild {
		for i, n := range wild {
			e := api.Edit{Op: op, Class: odd.Classes[i], Filter: odd.Filters[i], ID: n, To: op}
			for _, c := range []api.Config{{}, odd, {Tpb: n, Rule: n, Default: n}} {
				got, steps, wrong := edit.Apply(c, []api.Edit{e, e})
				if right := edit.Right(e); right != api.OK && wrong != right {
					t.Fatalf("%+v: Right %d, Apply %d", e, right, wrong)
				}
				if wrong != api.OK && (len(steps) > 0 || !equal(got, api.Config{})) {
					t.Fatalf("%+v: results beside an error", e)
				}
			}
			if !edit.Same(e, e) {
				t.Fatalf("%+v differs from itself", e)
			}
		}
		edit.To([]edit.Step{{From: op, To: op}}, op)
	}
}
