package ftable_test

import (
	"math"
	"math/rand"
	"slices"
	"testing"

	"flashlock/api"
	"flashlock/filter"
	"flashlock/ftable"
)

var all = api.Span{High: 65535}

// wide returns a filter that matches every flow; its leaf tells it from the others.
func wide(id, prio int) api.Filter {
	return api.Filter{ID: id, Prio: prio, Proto: -1, SrcPorts: all, DstPorts: all, Leaf: id}
}

// of returns a filter that matches every flow of the protocol.
func of(id, prio, proto int) api.Filter {
	f := wide(id, prio)
	f.Proto = proto
	return f
}

// from returns a filter that matches every flow of the protocol from those ports.
func from(id, prio, proto, low, high int) api.Filter {
	f := of(id, prio, proto)
	f.SrcPorts = api.Span{Low: low, High: high}
	return f
}

// key returns a flow of the protocol from a port.
func key(proto, port int) api.Key { return api.Key{Version: 4, Proto: proto, SrcPort: port} }

// many returns n filters whose order is that of their IDs.
func many(n int) []api.Filter {
	var l []api.Filter
	for i := range n {
		l = append(l, from(i+1, i, i%5-1, i, 65535))
	}
	return l
}

func table(t *testing.T, l ...api.Filter) *ftable.Table {
	t.Helper()
	tab, e := ftable.New(l)
	if tab == nil || e != api.OK {
		t.Fatalf("New(%v) = %v, %d", l, tab, e)
	}
	return tab
}

func with(t *testing.T, tab *ftable.Table, f api.Filter) *ftable.Table {
	t.Helper()
	more, e := tab.With(f)
	if more == nil || e != api.OK {
		t.Fatalf("With(%v) = %v, %d", f, more, e)
	}
	return more
}

func without(t *testing.T, tab *ftable.Table, id int) *ftable.Table {
	t.Helper()
	less, e := tab.Without(id)
	if less == nil || e != api.OK {
		t.Fatalf("Without(%d) = %v, %d", id, less, e)
	}
	return less
}

// sorted returns the filters in the order of their Prio, then of their ID, with sums instead of Less.
func sorted(l []api.Filter) []api.Filter {
	l = slices.Clone(l)
	slices.SortFunc(l, func(a, b api.Filter) int { return a.Prio*100000 + a.ID - b.Prio*100000 - b.ID })
	return l
}

// first returns the first of the filters in their order that matches k; every filter is asked.
func first(l []api.Filter, k api.Key) (api.Filter, bool) {
	var found []api.Filter
	for _, f := range sorted(l) {
		if filter.Match(f, k) {
			found = append(found, f)
		}
	}
	if len(found) == 0 {
		return api.Filter{}, false
	}
	return found[0], true
}

// contains fails unless the table has exactly those filters, in order.
func contains(t *testing.T, what string, tab *ftable.Table, l []api.Filter) {
	t.Helper()
	if got := slices.Collect(tab.All()); !slices.Equal(got, sorted(l)) {
		t.Fatalf("%s: All yields %v, not %v", what, got, sorted(l))
	}
	if tab.Len() != len(l) {
		t.Fatalf("%s: Len = %d, not %d", what, tab.Len(), len(l))
	}
}

// finds fails unless Lookup and Leaf of every key are as the filters in l say.
func finds(t *testing.T, what string, tab *ftable.Table, l []api.Filter, keys []api.Key) {
	t.Helper()
	for _, k := range keys {
		want, ok := first(l, k)
		if got, found := tab.Lookup(k); got != want || found != ok {
			t.Fatalf("%s: Lookup(%+v) = %+v, %t, not %+v, %t", what, k, got, found, want, ok)
		}
		for _, other := range []int{0, -7, 99, math.MaxInt} {
			leaf := other
			if ok {
				leaf = want.Leaf
			}
			if got := tab.Leaf(k, other); got != leaf {
				t.Fatalf("%s: Leaf(%+v, %d) = %d, not %d", what, k, other, got, leaf)
			}
		}
	}
}

// keys returns flows of each protocol and beyond, and some that no filter matches.
func keys() []api.Key {
	l := []api.Key{{}, {Proto: 17}, {Version: 5, Proto: 6}, {Version: 6, Proto: 17, SrcPort: 3, Src: api.Addr{Hi: 1}}}
	for proto := -2; proto <= 257; proto++ {
		l = append(l, key(proto, 0), key(proto, 9), key(proto, 65535))
	}
	return append(l, key(math.MinInt, 0), key(math.MaxInt, 0), key(17, -1), key(17, 65536))
}

func TestExample(t *testing.T) { // P16.1
	for _, l := range [][]api.Filter{{wide(5, 2), wide(6, 1)}, {wide(6, 1), wide(5, 2)}, {wide(5, 2), of(6, 1, 17)}, {of(5, 2, 17), wide(6, 1)}} {
		tab := table(t, l...)
		if f, ok := tab.Lookup(key(17, 1)); f.ID != 6 || !ok || tab.Leaf(key(17, 1), 9) != 6 {
			t.Errorf("%v: Lookup = %v, %t", l, f, ok)
		}
	}
}

func TestEmpty(t *testing.T) { // P16.1
	for _, l := range [][]api.Filter{nil, {}, make([]api.Filter, 0, 4)} {
		tab := table(t, l...)
		contains(t, "empty", tab, nil)
		finds(t, "empty", tab, nil, keys())
		contains(t, "empty with one", with(t, tab, wide(1, 0)), []api.Filter{wide(1, 0)})
		if less, e := tab.Without(1); less != nil || e != api.ErrNone {
			t.Errorf("Without(1) = %v, %d", less, e)
		}
	}
}

func TestNewFull(t *testing.T) { // P16.1
	for _, n := range []int{1, 63, 64} {
		tab := table(t, many(n)...)
		contains(t, "many", tab, many(n))
		finds(t, "many", tab, many(n), keys())
	}
	for _, n := range []int{65, 66, 200} {
		if tab, e := ftable.New(many(n)); tab != nil || e != api.ErrFull {
			t.Errorf("New of %d = %v, %d", n, tab, e)
		}
	}
	// The number counts ahead of what the elements are.
	for _, l := range [][]api.Filter{make([]api.Filter, 65), slices.Repeat([]api.Filter{wide(1, 0)}, 65)} {
		if tab, e := ftable.New(l); tab != nil || e != api.ErrFull {
			t.Errorf("New of %d = %v, %d", len(l), tab, e)
		}
	}
	if tab, e := ftable.New(make([]api.Filter, 64)); tab != nil || e != api.ErrRange {
		t.Errorf("New of 64 zero filters = %v, %d", tab, e)
	}
}

// fault is what makes a filter invalid, and its error.
type fault struct {
	err  api.Errno
	make func(*api.Filter)
}

// faults returns them in the order in which their errors are told.
func faults() []fault {
	return []fault{
		{api.ErrRange, func(f *api.Filter) { f.ID = 0 }},
		{api.ErrRange, func(f *api.Filter) { f.ID = 65536 }},
		{api.ErrPrio, func(f *api.Filter) { f.Prio = -1 }},
		{api.ErrPrio, func(f *api.Filter) { f.Prio = 65536 }},
		{api.ErrVersion, func(f *api.Filter) { f.Version = 5 }},
		{api.ErrForm, func(f *api.Filter) { f.SrcLen = -1 }},
		{api.ErrForm, func(f *api.Filter) { f.DstLen = 1 }},
		{api.ErrForm, func(f *api.Filter) { f.Src.Lo = 1 }},
		{api.ErrForm, func(f *api.Filter) { f.Dst.Hi = 1 }},
		{api.ErrKind, func(f *api.Filter) { f.Proto = -2 }},
		{api.ErrKind, func(f *api.Filter) { f.Proto = 256 }},
		{api.ErrForm, func(f *api.Filter) { f.SrcPorts = api.Span{Low: 2, High: 1} }},
		{api.ErrForm, func(f *api.Filter) { f.DstPorts.High = 65536 }},
		{api.ErrLeaf, func(f *api.Filter) { f.Leaf = 0 }},
		{api.ErrLeaf, func(f *api.Filter) { f.Leaf = 65536 }},
	}
}

func TestWrongFilters(t *testing.T) { // P16.1, P16.2
	good := many(4)
	for i, x := range faults() {
		// The ID is one of the table's, which counts after what the filter is.
		bad := wide(2, 7)
		x.make(&bad)
		for place := range 5 {
			if tab, e := ftable.New(slices.Insert(slices.Clone(good), place, bad)); tab != nil || e != x.err {
				t.Errorf("fault %d in place %d: New = %v, %d, not %d", i, place, tab, e, x.err)
			}
		}
		for _, tab := range []*ftable.Table{table(t), table(t, good...), table(t, many(64)...)} {
			n := tab.Len()
			if more, e := tab.With(bad); more != nil || e != x.err {
				t.Errorf("fault %d: With = %v, %d, not %d", i, more, e, x.err)
			}
			contains(t, "after With of a wrong one", tab, many(n))
		}
	}
}

func TestBoundsOfFilters(t *testing.T) { // P16.1, P16.2
	port := api.Span{Low: 65535, High: 65535}
	l := []api.Filter{
		of(1, 0, 0), of(65535, 0, 255), of(2, 65535, -1), from(3, 1, 6, 0, 0), from(4, 1, 17, 65535, 65535),
		{ID: 5, Version: 4, SrcLen: 32, DstLen: 32, Src: api.Addr{Lo: math.MaxUint32}, Proto: 6, SrcPorts: port, DstPorts: port, Leaf: 65535},
		{ID: 6, Version: 6, SrcLen: 128, DstLen: 128, Dst: api.Addr{Hi: math.MaxUint64, Lo: math.MaxUint64}, Proto: 17, SrcPorts: port, DstPorts: port, Leaf: 1},
	}
	tab := table(t, l...)
	contains(t, "bounds", tab, l)
	finds(t, "bounds", tab, l, keys())
	one := table(t)
	for _, f := range l {
		one = with(t, one, f)
	}
	contains(t, "bounds by With", one, l)
	finds(t, "bounds by With", one, l, keys())
	for _, c := range []struct {
		k    api.Key
		leaf int
	}{
		{api.Key{Version: 4, Src: api.Addr{Lo: math.MaxUint32}, Proto: 6, SrcPort: 65535, DstPort: 65535}, 65535},
		{api.Key{Version: 6, Dst: api.Addr{Hi: math.MaxUint64, Lo: math.MaxUint64}, Proto: 17, SrcPort: 65535, DstPort: 65535}, 1},
		{key(0, 5), 1}, {key(255, 5), 65535}, {key(6, 0), 3}, {key(6, 1), 2}, {key(17, 65535), 4}, {key(17, 65534), 2}, {key(-1, 0), 2},
	} {
		if got := tab.Leaf(c.k, 9); got != c.leaf {
			t.Errorf("Leaf(%+v) = %d, not %d", c.k, got, c.leaf)
		}
	}
}

func TestNewTwice(t *testing.T) { // P16.1
	bad := wide(0, 0)
	late := wide(1, 0)
	late.Leaf = 0
	for _, c := range []struct {
		l []api.Filter
		e api.Errno
	}{
		{[]api.Filter{wide(1, 0), wide(1, 0)}, api.ErrTwice},
		{[]api.Filter{wide(1, 0), of(1, 5, 17)}, api.ErrTwice},
		{[]api.Filter{wide(1, 0), wide(2, 0), wide(3, 0), wide(1, 9)}, api.ErrTwice},
		{[]api.Filter{wide(1, 0), wide(2, 0), wide(2, 1)}, api.ErrTwice},
		{[]api.Filter{wide(65535, 0), wide(1, 0), wide(65535, 1)}, api.ErrTwice},
		// The elements are told of in the order of the list, each one's own error first.
		{[]api.Filter{wide(1, 0), wide(1, 0), bad}, api.ErrTwice},
		{[]api.Filter{bad, wide(1, 0), wide(1, 0)}, api.ErrRange},
		{[]api.Filter{wide(1, 0), bad, wide(1, 0)}, api.ErrRange},
		{[]api.Filter{wide(1, 0), late}, api.ErrLeaf},
		{[]api.Filter{late, wide(1, 0)}, api.ErrLeaf},
		{[]api.Filter{bad, late}, api.ErrRange},
		{[]api.Filter{late, bad}, api.ErrLeaf},
		{[]api.Filter{bad, bad}, api.ErrRange},
	} {
		if tab, e := ftable.New(c.l); tab != nil || e != c.e {
			t.Errorf("New(%v) = %v, %d, not %d", c.l, tab, e, c.e)
		}
	}
	full := many(64)
	full[63].ID = 1
	if tab, e := ftable.New(full); tab != nil || e != api.ErrTwice {
		t.Errorf("New of 64, two of them alike = %v, %d", tab, e)
	}
}

func TestOrder(t *testing.T) { // P16.1, P16.3
	order := []api.Filter{wide(9, 0), of(65535, 0, 17), wide(1, 1), of(2, 1, 6), wide(8, 1), of(3, 2, 17), wide(4, 65535), of(7, 65535, 0)}
	r := rand.New(rand.NewSource(16))
	for range 200 {
		l := slices.Clone(order)
		r.Shuffle(len(l), func(i, j int) { l[i], l[j] = l[j], l[i] })
		if got := slices.Collect(table(t, l...).All()); !slices.Equal(got, order) {
			t.Fatalf("All of %v yields %v", l, got)
		}
		one := table(t)
		for _, f := range l {
			one = with(t, one, f)
		}
		if got := slices.Collect(one.All()); !slices.Equal(got, order) {
			t.Fatalf("All of %v, one by one, yields %v", l, got)
		}
	}
}

func TestAllEnds(t *testing.T) { // P16.1
	l := many(5)
	tab := table(t, l...)
	each := tab.All()
	for stop := range l {
		var seen []api.Filter
		for f := range each {
			seen = append(seen, f)
			if len(seen) > stop {
				break
			}
		}
		if !slices.Equal(seen, l[:stop+1]) {
			t.Errorf("stopped after %d: %v", stop+1, seen)
		}
	}
	for range each {
		if !slices.Equal(slices.Collect(each), l) || !slices.Equal(slices.Collect(tab.All()), l) {
			t.Error("a loop within a loop")
		}
	}
	// What is made of the table while it is ranged over does not change it.
	var seen []api.Filter
	for f := range each {
		with(t, tab, of(100, 0, 17))
		without(t, tab, f.ID)
		seen = append(seen, f)
	}
	if !slices.Equal(seen, l) {
		t.Errorf("a loop with other tables made in it: %v", seen)
	}
}

func TestLookupProtocols(t *testing.T) { // P16.1
	for _, l := range [][]api.Filter{
		{wide(1, 0)},
		{of(1, 0, 17)},
		{of(1, 0, 0)},
		{of(1, 0, 255)},
		{of(1, 0, 17), of(2, 1, 6), wide(3, 2)},
		{wide(1, 0), of(2, 1, 6), of(3, 2, 17)},
		{of(1, 0, 17), wide(2, 1), of(3, 2, 6), wide(4, 3), of(5, 4, 17)},
		{from(1, 0, -1, 5, 9), from(2, 1, 17, 0, 4), from(3, 2, -1, 9, 65535), of(4, 3, 17), from(5, 4, 6, 9, 9)},
		{from(9, 3, 17, 9, 9), from(8, 3, -1, 9, 65535), from(7, 3, 17, 0, 65534), from(6, 3, 6, 0, 65534)},
	} {
		finds(t, "protocols", table(t, l...), l, keys())
	}
}

func TestLookupFirst(t *testing.T) { // P16.1
	l := []api.Filter{from(30, 5, 17, 1, 1), from(20, 6, -1, 1, 2), from(10, 6, 17, 1, 3), from(25, 6, 17, 1, 4), wide(5, 7)}
	tab := table(t, l...)
	for port, leaf := range []int{5, 30, 10, 10, 25, 5} {
		if got := tab.Leaf(key(17, port), 99); got != leaf {
			t.Errorf("Leaf from port %d = %d, not %d", port, got, leaf)
		}
	}
	f, ok := tab.Lookup(key(6, 2))
	if f != l[1] || !ok {
		t.Errorf("Lookup = %v, %t", f, ok)
	}
}

func TestLookupNone(t *testing.T) { // P16.1
	tab := table(t, wide(1, 0), of(2, 0, 17))
	for _, k := range []api.Key{{}, {Version: 5}, {Version: -4, Proto: 17}, {Version: 4, SrcPort: -1}, {Version: 6, Proto: 17, DstPort: 65536}} {
		if f, ok := tab.Lookup(k); f != (api.Filter{}) || ok {
			t.Errorf("Lookup(%+v) = %v, %t", k, f, ok)
		}
		for _, other := range []int{math.MinInt, -1, 0, 1, 65536, math.MaxInt} {
			if got := tab.Leaf(k, other); got != other {
				t.Errorf("Leaf(%+v, %d) = %d", k, other, got)
			}
		}
	}
}

func TestWith(t *testing.T) { // P16.2
	l := []api.Filter{wide(20, 5), of(10, 5, 17), of(30, 1, 6)}
	for _, f := range []api.Filter{wide(1, 0), wide(15, 5), wide(40, 9), of(1, 0, 17), of(15, 5, 6), of(40, 9, 1), of(65535, 65535, 255)} {
		tab := table(t, l...)
		more := with(t, tab, f)
		contains(t, "with", more, append(slices.Clone(l), f))
		finds(t, "with", more, append(slices.Clone(l), f), keys())
		contains(t, "before", tab, l)
		finds(t, "before", tab, l, keys())
	}
}

func TestWithErrors(t *testing.T) { // P16.2
	tab := table(t, wide(1, 0), of(2, 0, 17))
	for _, f := range []api.Filter{wide(1, 0), of(1, 9, 6), wide(2, 3)} {
		if more, e := tab.With(f); more != nil || e != api.ErrTwice {
			t.Errorf("With(%v) = %v, %d", f, more, e)
		}
	}
	full := table(t, many(64)...)
	if more, e := full.With(wide(65, 0)); more != nil || e != api.ErrFull {
		t.Errorf("With of a full table = %v, %d", more, e)
	}
	// What the filter is, and whether it is there, counts ahead of the number.
	if more, e := full.With(wide(64, 0)); more != nil || e != api.ErrTwice {
		t.Errorf("With of a full table, ID 64 = %v, %d", more, e)
	}
	if more, e := full.With(wide(0, 0)); more != nil || e != api.ErrRange {
		t.Errorf("With of a full table, ID 0 = %v, %d", more, e)
	}
	contains(t, "full", full, many(64))
	contains(t, "again full", with(t, without(t, full, 7), many(7)[6]), many(64))
	contains(t, "the 64th", with(t, table(t, many(63)...), many(64)[63]), many(64))
}

func TestWithout(t *testing.T) { // P16.2
	l := []api.Filter{wide(20, 5), of(10, 5, 17), of(30, 1, 6), wide(65535, 2), of(1, 9, 17)}
	for i, f := range l {
		tab := table(t, l...)
		rest := slices.Delete(slices.Clone(l), i, i+1)
		less := without(t, tab, f.ID)
		contains(t, "without", less, rest)
		finds(t, "without", less, rest, keys())
		contains(t, "before", tab, l)
		finds(t, "before", tab, l, keys())
		if again, e := less.Without(f.ID); again != nil || e != api.ErrNone {
			t.Errorf("Without(%d) twice = %v, %d", f.ID, again, e)
		}
		contains(t, "and with", with(t, less, f), l)
	}
	for _, id := range []int{math.MinInt, -1, 0, 2, 11, 65534, 65536, math.MaxInt} {
		tab := table(t, l...)
		if less, e := tab.Without(id); less != nil || e != api.ErrNone {
			t.Errorf("Without(%d) = %v, %d", id, less, e)
		}
		contains(t, "after ErrNone", tab, l)
	}
	contains(t, "without the only one", without(t, table(t, wide(1, 0)), 1), nil)
}

func TestTablesOfOne(t *testing.T) { // P16.2
	// Tables made of the same one share nothing that one of them overwrites.
	l := many(9)
	tab := without(t, with(t, table(t, l...), wide(50, 0)), 50)
	a, b, c := with(t, tab, wide(70, 3)), with(t, tab, of(60, 3, 17)), without(t, tab, 1)
	d := with(t, a, of(80, 0, 6))
	contains(t, "a", a, append(slices.Clone(l), wide(70, 3)))
	contains(t, "b", b, append(slices.Clone(l), of(60, 3, 17)))
	contains(t, "c", c, l[1:])
	contains(t, "d", d, append(slices.Clone(l), wide(70, 3), of(80, 0, 6)))
	contains(t, "the table", tab, l)
	finds(t, "a", a, append(slices.Clone(l), wide(70, 3)), keys())
	finds(t, "b", b, append(slices.Clone(l), of(60, 3, 17)), keys())
	finds(t, "c", c, l[1:], keys())
	finds(t, "the table", tab, l, keys())
}

func TestArgumentsStay(t *testing.T) { // P16.1
	room := make([]api.Filter, 5)
	l := append(room[:0], wide(3, 2), of(2, 1, 17), wide(1, 0))
	before := slices.Clone(room)
	tab := table(t, l...)
	with(t, tab, of(9, 9, 9))
	if !slices.Equal(room, before) {
		t.Errorf("the argument became %v", room)
	}
	clear(room)
	contains(t, "after the argument was cleared", tab, before[:3])
	finds(t, "after the argument was cleared", tab, before[:3], keys())
}

func TestNil(t *testing.T) { // P16.2
	var tab *ftable.Table
	finds(t, "nil", tab, nil, keys())
	if tab.Len() != 0 {
		t.Errorf("Len = %d", tab.Len())
	}
	for f := range tab.All() {
		t.Errorf("All yields %v", f)
	}
	for _, f := range []api.Filter{{}, wide(1, 0), wide(0, 0), wide(1, -1)} {
		if more, e := tab.With(f); more != nil || e != api.ErrArg {
			t.Errorf("With(%v) = %v, %d", f, more, e)
		}
	}
	for _, id := range []int{-1, 0, 1, 65535, 65536} {
		if less, e := tab.Without(id); less != nil || e != api.ErrArg {
			t.Errorf("Without(%d) = %v, %d", id, less, e)
		}
	}
}

// pick returns one of the values.
func pick[T any](r *rand.Rand, l ...T) T { return l[r.Intn(len(l))] }

// anyFilter returns a valid filter out of few, so that several match one key.
func anyFilter(r *rand.Rand, id int) api.Filter {
	f := from(id, r.Intn(4), pick(r, -1, -1, 0, 6, 17, 255), r.Intn(3), 3+r.Intn(3))
	f.DstPorts = api.Span{Low: pick(r, 0, 0, 1), High: pick(r, 1, 65535)}
	f.Version = pick(r, 0, 0, 4, 6)
	if f.Version == 4 {
		f.Src, f.SrcLen = api.Addr{Lo: uint64(r.Intn(4)) << 30}, pick(r, 0, 1, 2)
	}
	if f.Version == 6 {
		f.Dst, f.DstLen = api.Addr{Hi: uint64(r.Intn(4)) << 62}, pick(r, 0, 1, 2)
	}
	f.Leaf = 1 + r.Intn(5)
	return f
}

func anyFilters(r *rand.Rand) []api.Filter {
	var l []api.Filter
	for _, id := range r.Perm(12)[:r.Intn(12)] {
		l = append(l, anyFilter(r, id+1))
	}
	return l
}

func anyKeys(r *rand.Rand) []api.Key {
	var l []api.Key
	for range 20 {
		k := api.Key{Version: pick(r, 4, 4, 6, 6, 0), Proto: pick(r, -1, 0, 1, 6, 17, 255), SrcPort: r.Intn(7), DstPort: r.Intn(3)}
		switch k.Version {
		case 4:
			k.Src.Lo = uint64(r.Intn(4)) << 30
		case 6:
			k.Dst.Hi = uint64(r.Intn(4)) << 62
		}
		l = append(l, k)
	}
	return l
}

func TestRandom(t *testing.T) { // P16.1, P16.2
	r := rand.New(rand.NewSource(7))
	for range 600 {
		l := anyFilters(r)
		tab := table(t, l...)
		for range 5 {
			if i := r.Intn(20); i < len(l) {
				tab = without(t, tab, l[i].ID)
				l = slices.Delete(l, i, i+1)
			}
			f := anyFilter(r, 1+r.Intn(20))
			if slices.ContainsFunc(l, func(g api.Filter) bool { return g.ID == f.ID }) {
				continue
			}
			tab = with(t, tab, f)
			l = append(l, f)
		}
		contains(t, "random", tab, l)
		finds(t, "random", tab, l, anyKeys(r))
	}
}

func TestOnlyTheFirstCounts(t *testing.T) { // P16.3
	r := rand.New(rand.NewSource(3))
	found := 0
	for range 1000 {
		l := anyFilters(r)
		tab := table(t, l...)
		other := slices.Clone(l)
		r.Shuffle(len(other), func(i, j int) { other[i], other[j] = other[j], other[i] })
		mixed := table(t, other...)
		for _, k := range anyKeys(r) {
			f, ok := tab.Lookup(k)
			if g, same := mixed.Lookup(k); g != f || same != ok {
				t.Fatalf("%v: in another order %v, %t, not %v, %t", l, g, same, f, ok)
			}
			if !ok {
				continue
			}
			found++
			less := tab
			for g := range tab.All() {
				if g.ID == f.ID {
					continue
				}
				less = without(t, less, g.ID)
				if h, ok := less.Lookup(k); h != f || !ok {
					t.Fatalf("%v: without %d, Lookup(%+v) = %v, %t, not %v", l, g.ID, k, h, ok, f)
				}
			}
		}
	}
	if found < 2500 {
		t.Errorf("only %d keys were found", found)
	}
}

func TestAnything(t *testing.T) { // P6
	r := rand.New(rand.NewSource(6))
	n := func() int {
		return pick(r, math.MinInt, -2, -1, 0, 1, 4, 6, 17, 128, 255, 256, 65535, 65536, math.MaxInt)
	}
	a := func() api.Addr {
		return api.Addr{Hi: pick[uint64](r, 0, 1, math.MaxUint64), Lo: pick[uint64](r, 0, math.MaxUint32, math.MaxUint64)}
	}
	f := func() api.Filter {
		return api.Filter{ID: n(), Prio: n(), Version: n(), Src: a(), Dst: a(), SrcLen: n(), DstLen: n(), Proto: n(),
			SrcPorts: api.Span{Low: n(), High: n()}, DstPorts: api.Span{Low: n(), High: n()}, Leaf: n()}
	}
	tab := table(t, many(20)...)
	for range 5000 {
		x := f()
		if made, e := ftable.New([]api.Filter{x, f()}); (made == nil) == (e == api.OK) {
			t.Fatalf("New(%+v, ..) = %v, %d", x, made, e)
		}
		if more, e := tab.With(x); (more == nil) == (e == api.OK) || filter.Right(x) != api.OK && e != filter.Right(x) {
			t.Fatalf("With(%+v) = %v, %d", x, more, e)
		}
		if less, e := tab.Without(n()); (less == nil) == (e == api.OK) {
			t.Fatalf("Without = %v, %d", less, e)
		}
		k := api.Key{Version: n(), Src: a(), Dst: a(), Proto: n(), SrcPort: n(), DstPort: n()}
		finds(t, "anything", tab, many(20), []api.Key{k})
	}
}
