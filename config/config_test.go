package config_test

import (
	"math"
	"math/rand"
	"slices"
	"testing"

	"flashlock/api"
	"flashlock/class"
	"flashlock/config"
	"flashlock/filter"
	"flashlock/flow"
	"flashlock/ftable"
	"flashlock/quota"
	"flashlock/tree"
)

var all = api.Span{High: 65535}

// of returns a class with that part of the link.
func of(id, parent int, share float64) api.Class {
	return api.Class{ID: id, Parent: parent, Share: share, Prio: id % 8, Quantum: 1 + id, Limit: 1 + id%1024, Weight: id % 17, MinIdle: -id}
}

// wide returns a filter that assigns every flow of the protocol.
func wide(id, prio, proto, leaf int) api.Filter {
	return api.Filter{ID: id, Prio: prio, Proto: proto, SrcPorts: all, DstPorts: all, Leaf: leaf}
}

// base returns a valid configuration: the root 1 with 2 and 3 below it, 4 and 5 below 3. Its lists are not sorted.
func base() api.Config {
	return api.Config{
		Tpb: 10, Rule: 1, Default: 5,
		Classes: []api.Class{of(3, 1, 0.5), of(5, 3, 0.25), of(1, 0, 1), of(4, 3, 0.25), of(2, 1, 0.5)},
		Filters: []api.Filter{wide(20, 1, 17, 2), wide(10, 2, -1, 4), wide(30, 0, 6, 5)},
	}
}

// single returns the configuration of one class.
func single() api.Config {
	return api.Config{Tpb: 1, Default: 1, Classes: []api.Class{{ID: 1, Share: 1, Quantum: 1, Limit: 1}}}
}

// clone returns c with lists of its own.
func clone(c api.Config) api.Config {
	c.Classes, c.Filters = slices.Clone(c.Classes), slices.Clone(c.Filters)
	return c
}

// equal reports whether both have the same elements in the same order; the bits of Shares count.
func equal(a, b api.Config) bool {
	same := func(x, y api.Class) bool {
		if math.Float64bits(x.Share) != math.Float64bits(y.Share) {
			return false
		}
		x.Share, y.Share = 0, 0
		return x == y
	}
	return a.Tpb == b.Tpb && a.Rule == b.Rule && a.Default == b.Default &&
		slices.EqualFunc(a.Classes, b.Classes, same) && slices.Equal(a.Filters, b.Filters)
}

// canon sorts both lists by moving each element ahead of those with greater IDs.
func canon(c api.Config) api.Config {
	c = clone(c)
	for i := range c.Classes {
		for j := i; j > 0 && c.Classes[j].ID < c.Classes[j-1].ID; j-- {
			c.Classes[j], c.Classes[j-1] = c.Classes[j-1], c.Classes[j]
		}
	}
	for i := range c.Filters {
		for j := i; j > 0 && c.Filters[j].ID < c.Filters[j-1].ID; j-- {
			c.Filters[j], c.Filters[j-1] = c.Filters[j-1], c.Filters[j]
		}
	}
	return c
}

// wrong is the error of a configuration, as the chapter says it.
func wrong(c api.Config) api.Errno {
	if c.Tpb < 1 || c.Tpb > 1048576 {
		return api.ErrRange
	}
	if c.Rule != 0 && c.Rule != 1 && c.Rule != 2 {
		return api.ErrKind
	}
	t, e := tree.Compile(c.Classes)
	if e != api.OK {
		return e
	}
	if e := quota.Check(t); e != api.OK {
		return e
	}
	if _, e := ftable.New(c.Filters); e != api.OK {
		return e
	}
	leaves := t.Leaves()
	for _, f := range c.Filters {
		if !slices.Contains(leaves, f.Leaf) {
			return api.ErrLeaf
		}
	}
	if !slices.Contains(leaves, c.Default) {
		return api.ErrLeaf
	}
	return api.OK
}

// leaf is the leaf of a flow, found by asking every filter.
func leaf(c api.Config, k api.Key) int {
	var first api.Filter
	for _, f := range c.Filters {
		if filter.Match(f, k) && (first.ID == 0 || filter.Less(f, first)) {
			first = f
		}
	}
	if first.ID == 0 {
		return c.Default
	}
	return first.Leaf
}

func compile(t *testing.T, c api.Config) *config.Set {
	t.Helper()
	s, e := config.Compile(c)
	if s == nil || e != api.OK {
		t.Fatalf("Compile(%+v) = %v, %d", c, s, e)
	}
	if e := config.Check(c); e != api.OK {
		t.Fatalf("Check(%+v) = %d", c, e)
	}
	return s
}

func fails(t *testing.T, what string, c api.Config, want api.Errno) {
	t.Helper()
	if s, e := config.Compile(c); s != nil || e != want {
		t.Errorf("%s: Compile = %v, %d, not %d", what, s, e, want)
	}
	if e := config.Check(c); e != want {
		t.Errorf("%s: Check = %d, not %d", what, e, want)
	}
}

// keys returns flows of several protocols, and some that no filter matches.
func keys() []api.Key {
	var l []api.Key
	for _, version := range []int{0, 4, 5, 6} {
		for _, proto := range []int{-1, 0, 1, 6, 17, 255, 256} {
			l = append(l, api.Key{Version: version, Proto: proto}, api.Key{Version: version, Proto: proto, SrcPort: 65536},
				api.Key{Version: version, Src: api.Addr{Lo: 7}, Proto: proto, DstPort: 53})
		}
	}
	return l
}

// agrees holds a set against the configuration that was compiled.
func agrees(t *testing.T, s *config.Set, c api.Config) {
	t.Helper()
	if got := s.Conf(); !equal(got, canon(c)) {
		t.Errorf("Conf = %+v, not %+v", got, canon(c))
	}
	if s.Tree().Len() != len(c.Classes) || s.Table().Len() != len(c.Filters) {
		t.Fatalf("%d classes and %d filters", s.Tree().Len(), s.Table().Len())
	}
	for _, x := range c.Classes {
		if got, ok := s.Tree().Class(x.ID); !ok || !class.Same(got, x) {
			t.Errorf("class %d of the tree is %+v", x.ID, got)
		}
		units := class.Units(x)
		if got := s.Quota().Units(x.ID); got != units {
			t.Errorf("Units(%d) = %d, not %d", x.ID, got, units)
		}
		time := (8*c.Tpb*1048576 + units - 1) / units
		if got := s.Quota().Time(x.ID, 5); got != time {
			t.Errorf("Time(%d, 5) = %d, not %d", x.ID, got, time)
		}
	}
	for _, f := range c.Filters {
		if !slices.Contains(slices.Collect(s.Table().All()), f) {
			t.Errorf("the table lacks %+v", f)
		}
	}
	for _, k := range keys() {
		assigns(t, s, c, k)
	}
}

func assigns(t *testing.T, s *config.Set, c api.Config, k api.Key) {
	t.Helper()
	if got, want := s.Leaf(k), leaf(c, k); got != want {
		t.Errorf("Leaf(%+v) = %d, not %d", k, got, want)
	}
}

func TestExample(t *testing.T) { // P21.1, P21.3
	s := compile(t, single())
	for _, raw := range []string{"", "x", string(make([]byte, 40)), flow.Make(api.Key{Version: 4, Proto: 17}, 28), flow.Make(api.Key{Version: 6, Proto: 6}, 2048)} {
		if got, _ := s.Of(raw); got != 1 {
			t.Errorf("Of(%q) = %d", raw, got)
		}
	}
	agrees(t, s, single())
}

func TestCompile(t *testing.T) { // P21.1, P21.2, P21.3
	agrees(t, compile(t, base()), base())
	c := base()
	c.Filters = nil
	agrees(t, compile(t, c), c)
	c.Filters = []api.Filter{}
	agrees(t, compile(t, c), c)
}

func TestBounds(t *testing.T) { // P21.1
	for tpb, want := range map[int]api.Errno{
		math.MinInt: api.ErrRange, -1: api.ErrRange, 0: api.ErrRange, 1: api.OK, 2: api.OK,
		1048575: api.OK, 1048576: api.OK, 1048577: api.ErrRange, math.MaxInt: api.ErrRange,
	} {
		c := base()
		if c.Tpb = tpb; want != api.OK {
			fails(t, "Tpb", c, want)
			continue
		}
		agrees(t, compile(t, c), c)
	}
	for rule, want := range map[int]api.Errno{
		math.MinInt: api.ErrKind, -1: api.ErrKind, 0: api.OK, 1: api.OK, 2: api.OK, 3: api.ErrKind, math.MaxInt: api.ErrKind,
	} {
		c := base()
		if c.Rule = rule; want != api.OK {
			fails(t, "Rule", c, want)
			continue
		}
		agrees(t, compile(t, c), c)
	}
}

// star returns a root with n-1 leaves and m filters.
func star(n, m int) api.Config {
	c := api.Config{Tpb: 1, Default: n, Classes: []api.Class{of(1, 0, 1)}}
	for id := 2; id <= n; id++ {
		c.Classes = append(c.Classes, of(id, 1, 1.0/64))
	}
	for id := range m {
		c.Filters = append(c.Filters, wide(65535-id, id, id, 2+id%(n-1)))
	}
	return c
}

func TestMost(t *testing.T) { // P21.1, P21.2, P21.3
	agrees(t, compile(t, star(64, 64)), star(64, 64))
	fails(t, "65 classes", star(65, 64), api.ErrFull)
	fails(t, "65 filters", star(64, 65), api.ErrFull)
	deep := api.Config{Tpb: 1, Default: 8}
	for id := range 8 {
		deep.Classes = append(deep.Classes, of(id+1, id, 1))
	}
	agrees(t, compile(t, deep), deep)
	deep.Classes = append(deep.Classes, of(9, 8, 1))
	deep.Default = 9
	fails(t, "9 levels", deep, api.ErrDeep)
}

// fault is what makes a configuration invalid, with its error; later steps are not reached.
type fault struct {
	what string
	step int
	err  api.Errno
	make func(*api.Config)
}

// faults returns them in the order of the steps of the examination.
func faults() []fault {
	return []fault{
		{"Tpb 0", 0, api.ErrRange, func(c *api.Config) { c.Tpb = 0 }},
		{"Tpb 2^20 + 1", 0, api.ErrRange, func(c *api.Config) { c.Tpb = 1<<20 + 1 }},
		{"Rule -1", 1, api.ErrKind, func(c *api.Config) { c.Rule = -1 }},
		{"Rule 3", 1, api.ErrKind, func(c *api.Config) { c.Rule = 3 }},
		{"no classes", 2, api.ErrNone, func(c *api.Config) { c.Classes = nil }},
		{"65 classes", 2, api.ErrFull, func(c *api.Config) { c.Classes = star(65, 0).Classes }},
		{"NaN", 2, api.ErrFloat, func(c *api.Config) { c.Classes[4].Share = math.NaN() }},
		{"Share 2", 2, api.ErrShare, func(c *api.Config) { c.Classes[2].Share = 2 }},
		{"Prio 8", 2, api.ErrPrio, func(c *api.Config) { c.Classes[0].Prio = 8 }},
		{"Limit 0", 2, api.ErrLimit, func(c *api.Config) { c.Classes[0].Limit = 0 }},
		{"Weight 17", 2, api.ErrRange, func(c *api.Config) { c.Classes[0].Weight = 17 }},
		{"a class twice", 2, api.ErrTwice, func(c *api.Config) { c.Classes = append(c.Classes, c.Classes[0]) }},
		{"no parent", 2, api.ErrParent, func(c *api.Config) { c.Classes[0].Parent = 9 }},
		{"two roots", 2, api.ErrParent, func(c *api.Config) { c.Classes[0].Parent = 0 }},
		{"a ring", 2, api.ErrRing, func(c *api.Config) { c.Classes[0].Parent = 5 }},
		{"quota", 3, api.ErrShare, func(c *api.Config) { c.Classes[3].Share = 0.26 }},
		{"65 filters", 4, api.ErrFull, func(c *api.Config) { c.Filters = make([]api.Filter, 65) }},
		{"ID 0", 4, api.ErrRange, func(c *api.Config) { c.Filters[1].ID = 0 }},
		{"Prio -1", 4, api.ErrPrio, func(c *api.Config) { c.Filters[1].Prio = -1 }},
		{"Leaf 0", 4, api.ErrLeaf, func(c *api.Config) { c.Filters[0].Leaf = 0 }},
		{"a filter twice", 4, api.ErrTwice, func(c *api.Config) { c.Filters = append(c.Filters, c.Filters[0]) }},
		{"the first filter's Leaf", 5, api.ErrLeaf, func(c *api.Config) { c.Filters[2].Leaf = 1 }},
		{"the last filter's Leaf", 5, api.ErrLeaf, func(c *api.Config) { c.Filters[0].Leaf = 3 }},
		{"Leaf of no class", 5, api.ErrLeaf, func(c *api.Config) { c.Filters[1].Leaf = 6 }},
		{"Default 0", 5, api.ErrLeaf, func(c *api.Config) { c.Default = 0 }},
		{"Default -2", 5, api.ErrLeaf, func(c *api.Config) { c.Default = -2 }},
		{"Default of a root", 5, api.ErrLeaf, func(c *api.Config) { c.Default = 1 }},
		{"Default of a class with children", 5, api.ErrLeaf, func(c *api.Config) { c.Default = 3 }},
		{"Default of no class", 5, api.ErrLeaf, func(c *api.Config) { c.Default = 6 }},
	}
}

func TestFaults(t *testing.T) { // P21.1
	for _, x := range faults() {
		c := base()
		x.make(&c)
		fails(t, x.what, c, x.err)
	}
	fails(t, "the zero configuration", api.Config{}, api.ErrRange)
	fails(t, "no more than a Tpb", api.Config{Tpb: 1}, api.ErrNone)
}

func TestFirstFault(t *testing.T) { // P21.1
	for _, x := range faults() {
		for _, y := range faults() {
			if x.step >= y.step {
				continue
			}
			c := base()
			y.make(&c)
			x.make(&c)
			fails(t, x.what+" and "+y.what, c, x.err)
		}
	}
}

func TestLeafMustExist(t *testing.T) { // P21.1
	for id := -1; id <= 8; id++ {
		c := base()
		c.Default = id
		isLeaf := id == 2 || id == 4 || id == 5
		if isLeaf != (config.Check(c) == api.OK) {
			t.Errorf("Default %d: Check = %d", id, config.Check(c))
		}
		for i := range c.Filters {
			c := base()
			c.Filters[i].Leaf = id
			want := api.ErrLeaf
			if isLeaf {
				want = api.OK
			}
			if e := config.Check(c); e != want {
				t.Errorf("Leaf %d of filter %d: Check = %d, not %d", id, i, e, want)
			}
		}
	}
}

func TestCanon(t *testing.T) { // P21.2
	c := base()
	want := []int{1, 2, 3, 4, 5}
	got := config.Canon(c)
	for i, x := range got.Classes {
		if x.ID != want[i] {
			t.Errorf("class %d is %d", i, x.ID)
		}
	}
	for i, f := range got.Filters {
		if f.ID != 10*(i+1) {
			t.Errorf("filter %d is %d", i, f.ID)
		}
	}
	if !equal(got, canon(c)) {
		t.Errorf("Canon = %+v", got)
	}
	if again := config.Canon(got); !equal(again, got) {
		t.Errorf("Canon of a Canon = %+v", again)
	}
	for _, c := range []api.Config{{}, {Classes: []api.Class{}, Filters: []api.Filter{}}, {Tpb: -1, Rule: 9, Default: math.MinInt}} {
		if got := config.Canon(c); !equal(got, c) {
			t.Errorf("Canon(%+v) = %+v", c, got)
		}
	}
}

func TestCanonOfEqualIDs(t *testing.T) { // P21.2
	var c api.Config
	for i := range 100 {
		c.Classes = append(c.Classes, api.Class{ID: 3 - i%4, Limit: i})
		c.Filters = append(c.Filters, api.Filter{ID: 3 - i%3, Leaf: i})
	}
	c.Classes[50].Share = math.NaN()
	c.Classes[51].Share = math.Copysign(0, -1)
	if got := config.Canon(c); !equal(got, canon(c)) {
		t.Errorf("Canon = %+v", got)
	}
}

// changes returns configurations each of which differs from base in one place.
func changes() []api.Config {
	var l []api.Config
	add := func(change func(c *api.Config)) {
		c := base()
		change(&c)
		l = append(l, c)
	}
	add(func(c *api.Config) { c.Tpb++ })
	add(func(c *api.Config) { c.Rule++ })
	add(func(c *api.Config) { c.Default++ })
	for i := range base().Classes {
		add(func(c *api.Config) { c.Classes[i].ID = 9 })
		add(func(c *api.Config) { c.Classes[i].Parent++ })
		add(func(c *api.Config) { c.Classes[i].Share /= 2 })
		add(func(c *api.Config) { c.Classes[i].Share = math.NaN() })
		add(func(c *api.Config) { c.Classes[i].Prio++ })
		add(func(c *api.Config) { c.Classes[i].Quantum++ })
		add(func(c *api.Config) { c.Classes[i].Limit++ })
		add(func(c *api.Config) { c.Classes[i].Weight++ })
		add(func(c *api.Config) { c.Classes[i].MinIdle++ })
		add(func(c *api.Config) { c.Classes[i].MaxIdle++ })
		add(func(c *api.Config) { c.Classes[i].Bounded = true })
		add(func(c *api.Config) { c.Classes[i].Isolated = true })
		add(func(c *api.Config) { c.Classes = slices.Delete(c.Classes, i, i+1) })
		add(func(c *api.Config) { c.Classes = slices.Insert(c.Classes, i, c.Classes[i]) })
	}
	for i := range base().Filters {
		add(func(c *api.Config) { c.Filters[i].ID = 9 })
		add(func(c *api.Config) { c.Filters[i].Prio++ })
		add(func(c *api.Config) { c.Filters[i].Version = 4 })
		add(func(c *api.Config) { c.Filters[i].Src.Hi++ })
		add(func(c *api.Config) { c.Filters[i].Src.Lo++ })
		add(func(c *api.Config) { c.Filters[i].Dst.Hi++ })
		add(func(c *api.Config) { c.Filters[i].Dst.Lo++ })
		add(func(c *api.Config) { c.Filters[i].SrcLen++ })
		add(func(c *api.Config) { c.Filters[i].DstLen++ })
		add(func(c *api.Config) { c.Filters[i].Proto++ })
		add(func(c *api.Config) { c.Filters[i].SrcPorts.Low++ })
		add(func(c *api.Config) { c.Filters[i].SrcPorts.High-- })
		add(func(c *api.Config) { c.Filters[i].DstPorts.Low++ })
		add(func(c *api.Config) { c.Filters[i].DstPorts.High-- })
		add(func(c *api.Config) { c.Filters[i].Leaf++ })
		add(func(c *api.Config) { c.Filters = slices.Delete(c.Filters, i, i+1) })
		add(func(c *api.Config) { c.Filters = slices.Insert(c.Filters, i, c.Filters[i]) })
	}
	return l
}

func TestSame(t *testing.T) { // P21.2
	l := append(changes(), base(), api.Config{}, single())
	for i, a := range l {
		for j, b := range l {
			if got := config.Same(a, clone(b)); got != (i == j) {
				t.Fatalf("Same of %d and %d = %t: %+v, %+v", i, j, got, a, b)
			}
		}
		if !config.Same(a, config.Canon(a)) || !config.Same(config.Canon(a), a) {
			t.Errorf("%d is not the same as its Canon", i)
		}
	}
	if !config.Same(api.Config{}, api.Config{Classes: []api.Class{}, Filters: []api.Filter{}}) {
		t.Error("nil and empty lists differ")
	}
}

func TestSameFloats(t *testing.T) { // P21.2
	shares := []float64{0, math.Copysign(0, -1), 1, math.Inf(1), math.Inf(-1), math.NaN(), math.Float64frombits(0x7FF8000000000002)}
	for _, x := range shares {
		for _, y := range shares {
			a, b := api.Config{Classes: []api.Class{{ID: 1, Share: x}}}, api.Config{Classes: []api.Class{{ID: 1, Share: y}}}
			want := class.Same(a.Classes[0], b.Classes[0])
			if got := config.Same(a, b); got != want {
				t.Errorf("Same of Shares %v and %v = %t", x, y, got)
			}
		}
	}
}

func TestSameOrder(t *testing.T) { // P21.2
	r := rand.New(rand.NewSource(2))
	for range 50 {
		a, b := shuffled(r, base()), shuffled(r, base())
		if !config.Same(a, b) {
			t.Fatalf("Same(%+v, %+v)", a, b)
		}
	}
	// Elements with equal IDs keep their order, in which they are compared.
	one, two := api.Class{ID: 1, Limit: 1}, api.Class{ID: 1, Limit: 2}
	f, g := wide(1, 0, 6, 1), wide(1, 0, 17, 1)
	if config.Same(api.Config{Classes: []api.Class{one, two}}, api.Config{Classes: []api.Class{two, one}}) {
		t.Error("classes with equal IDs in another order")
	}
	if config.Same(api.Config{Filters: []api.Filter{f, g}}, api.Config{Filters: []api.Filter{g, f}}) {
		t.Error("filters with equal IDs in another order")
	}
	a := api.Config{Classes: []api.Class{one, {}, two}, Filters: []api.Filter{f, {}, g}}
	b := api.Config{Classes: []api.Class{one, two, {}}, Filters: []api.Filter{{}, f, g}}
	if !config.Same(a, b) {
		t.Error("elements with equal IDs around another one")
	}
}

// shuffled returns c with its lists in another order.
func shuffled(r *rand.Rand, c api.Config) api.Config {
	c = clone(c)
	r.Shuffle(len(c.Classes), func(i, j int) { c.Classes[i], c.Classes[j] = c.Classes[j], c.Classes[i] })
	r.Shuffle(len(c.Filters), func(i, j int) { c.Filters[i], c.Filters[j] = c.Filters[j], c.Filters[i] })
	return c
}

func TestOf(t *testing.T) { // P21.3
	c := base()
	s := compile(t, c)
	for _, x := range []struct {
		k    api.Key
		size int
		leaf int
	}{
		{api.Key{Version: 4, Proto: 17, SrcPort: 5, DstPort: 6}, 28, 2},
		{api.Key{Version: 6, Proto: 17, Src: api.Addr{Hi: 1}}, 48, 2},
		{api.Key{Version: 4, Proto: 6, DstPort: 80}, 1500, 5},
		{api.Key{Version: 6, Proto: 6}, 2048, 5},
		{api.Key{Version: 4, Proto: 1}, 20, 4},
		{api.Key{Version: 6, Proto: 1}, 40, 4},
	} {
		raw := flow.Make(x.k, x.size)
		if got, k := s.Of(raw); got != x.leaf || k != x.k {
			t.Errorf("Of a packet of %+v = %d, %+v, not %d", x.k, got, k, x.leaf)
		}
		// Cut off, with another version, or with nothing but zeros it is malformed.
		for _, bad := range []string{raw[:len(raw)-1], "\x50" + raw[1:], "", "\x00" + raw, string(make([]byte, len(raw)))} {
			if got, k := s.Of(bad); got != 5 || k != (api.Key{}) {
				t.Errorf("Of(%q) = %d, %+v", bad, got, k)
			}
		}
	}
	// What matches every flow does not match what has none.
	c.Filters = []api.Filter{wide(1, 0, -1, 2)}
	s = compile(t, c)
	if got, _ := s.Of(flow.Make(api.Key{Version: 4, Proto: 17}, 28)); got != 2 {
		t.Errorf("Of = %d, not 2", got)
	}
	if got, k := s.Of("\x45"); got != 5 || k != (api.Key{}) {
		t.Errorf("Of a malformed packet = %d, %+v", got, k)
	}
	if got := s.Leaf(api.Key{}); got != 5 {
		t.Errorf("Leaf of the zero key = %d", got)
	}
}

func TestNil(t *testing.T) { // P21.2, P21.3
	var s *config.Set
	if c := s.Conf(); !equal(c, api.Config{}) {
		t.Errorf("Conf = %+v", c)
	}
	if s.Tree() != nil || s.Table() != nil || s.Quota() != nil {
		t.Errorf("Tree, Table, Quota = %v, %v, %v", s.Tree(), s.Table(), s.Quota())
	}
	for _, k := range keys() {
		if got := s.Leaf(k); got != 0 {
			t.Errorf("Leaf(%+v) = %d", k, got)
		}
	}
	for _, raw := range []string{"", "x", flow.Make(api.Key{Version: 4, Proto: 17}, 28)} {
		if got, k := s.Of(raw); got != 0 || k != (api.Key{}) {
			t.Errorf("Of(%q) = %d, %+v", raw, got, k)
		}
	}
}

func TestArgumentsStay(t *testing.T) { // P21.1, P21.2
	c := base()
	classes, filters := make([]api.Class, 8), make([]api.Filter, 6)
	c.Classes, c.Filters = append(classes[:0], c.Classes...), append(filters[:0], c.Filters...)
	before := api.Config{Classes: slices.Clone(classes), Filters: slices.Clone(filters)}
	s := compile(t, c)
	sorted := config.Canon(c)
	config.Same(c, base())
	if !equal(api.Config{Classes: classes, Filters: filters}, before) {
		t.Error("the argument was changed")
	}
	clear(classes)
	clear(filters)
	agrees(t, s, base())
	if !equal(sorted, canon(base())) {
		t.Errorf("the Canon became %+v", sorted)
	}
	conf := s.Conf()
	clear(conf.Classes)
	clear(conf.Filters)
	agrees(t, s, base())
}

func TestSetsOfOne(t *testing.T) { // P21.2
	a, c := compile(t, base()), base()
	c.Default, c.Tpb = 2, 3
	c.Classes[0].Limit++
	c.Filters[0].Leaf = 4
	b := compile(t, c)
	agrees(t, b, c)
	agrees(t, a, base())
}

func TestPromoted(t *testing.T) { // P21.2
	s := compile(t, base())
	if s.Root() != 1 || !slices.Equal(s.IDs(), []int{1, 2, 3, 4, 5}) || !slices.Equal(s.Leaves(), []int{2, 4, 5}) || s.Level(3) != 2 {
		t.Error("the tree's methods are not the set's")
	}
	if f, ok := s.Lookup(api.Key{Version: 4, Proto: 17}); f.ID != 20 || !ok {
		t.Errorf("Lookup = %+v", f)
	}
	if s.Units(3) != 524288 || s.Spare(1) != 0 || s.Part(4) != 0.25 || s.Time(4, 8) != 320 || s.Given() != 1 {
		t.Error("the quotas' methods are not the set's")
	}
}

func pick[T any](r *rand.Rand, l ...T) T { return l[r.Intn(len(l))] }

// random returns a configuration that is valid most of the time.
func random(r *rand.Rand) api.Config {
	c := api.Config{Tpb: pick(r, 1, 7, 1<<20), Rule: r.Intn(3)}
	ids := r.Perm(9)[:1+r.Intn(7)]
	share := map[int]float64{0: 1}
	for i, id := range ids {
		parent := 0
		if i > 0 {
			parent = ids[r.Intn(i)] + 1
		}
		share[id+1] = share[parent] * pick(r, 0.0625, 0.125, 0.25)
		c.Classes = append(c.Classes, of(id+1, parent, share[id+1]))
	}
	leaves := []int{1 + r.Intn(9)}
	if tr, e := tree.Compile(c.Classes); e == api.OK {
		leaves = tr.Leaves()
	}
	for _, id := range r.Perm(12)[:r.Intn(6)] {
		f := wide(id+1, r.Intn(4), pick(r, -1, 0, 6, 17), pick(r, leaves...))
		f.SrcPorts = api.Span{Low: r.Intn(3), High: 2 + r.Intn(3)}
		if f.Version = pick(r, 0, 4, 6); f.Version == 4 {
			f.Src, f.SrcLen = api.Addr{Lo: uint64(r.Intn(2)) << 31}, 1
		}
		c.Filters = append(c.Filters, f)
	}
	c.Default = pick(r, leaves...)
	switch r.Intn(12) {
	case 0:
		c.Default = r.Intn(12)
	case 1:
		c.Classes[r.Intn(len(c.Classes))].ID = r.Intn(12)
	case 2:
		c.Classes[r.Intn(len(c.Classes))].Share = pick(r, 1, 0.5, 0, math.NaN())
	case 3:
		c.Filters = append(c.Filters, wide(r.Intn(14), 0, -1, r.Intn(12)))
	}
	return shuffled(r, c)
}

func randomKey(r *rand.Rand) api.Key {
	k := api.Key{Version: pick(r, 4, 6), Proto: pick(r, 1, 6, 17)}
	if k.Proto != 1 {
		k.SrcPort, k.DstPort = r.Intn(6), r.Intn(6)
	}
	if k.Version == 4 {
		k.Src.Lo = uint64(r.Intn(2)) << 31
	}
	return k
}

func TestRandom(t *testing.T) { // P21.1, P21.2, P21.3
	r := rand.New(rand.NewSource(21))
	valid := 0
	for range 3000 {
		c := random(r)
		want := wrong(c)
		if want != api.OK {
			fails(t, "random", c, want)
			continue
		}
		valid++
		s := compile(t, c)
		if !equal(s.Conf(), canon(c)) {
			t.Fatalf("Conf of %+v = %+v", c, s.Conf())
		}
		for range 10 {
			k := randomKey(r)
			assigns(t, s, c, k)
			if got, same := s.Of(flow.Make(k, 100)); same != k || got != s.Leaf(k) {
				t.Fatalf("Of a packet of %+v = %d, %+v", k, got, same)
			}
		}
	}
	if valid < 2000 || valid > 2900 {
		t.Errorf("%d of the configurations are valid", valid)
	}
}

func TestEveryPacketHasALeaf(t *testing.T) { // P21.4
	r := rand.New(rand.NewSource(4))
	c := base()
	s := compile(t, c)
	other := compile(t, shuffled(r, c))
	seen := map[int]int{}
	for range 20000 {
		raw := make([]byte, r.Intn(64))
		r.Read(raw)
		if r.Intn(2) == 0 {
			raw = []byte(flow.Make(randomKey(r), 60))
			if r.Intn(2) == 0 {
				raw[r.Intn(len(raw))] ^= 1 << r.Intn(8)
			}
		}
		got, k := s.Of(string(raw))
		if !s.Tree().Leaf(got) {
			t.Fatalf("Of(%q) = %d", raw, got)
		}
		if want, e := flow.Of(string(raw)); k != want || e != api.OK && got != c.Default {
			t.Fatalf("Of(%q) = %d, %+v, not %+v", raw, got, k, want)
		}
		if same, key := other.Of(string(raw)); same != got || key != k {
			t.Fatalf("in another order Of(%q) = %d, %+v", raw, same, key)
		}
		seen[got]++
	}
	if len(seen) != 3 {
		t.Errorf("leaves %v", seen)
	}
}

func TestOrderHasNoEffect(t *testing.T) { // P21.4
	r := rand.New(rand.NewSource(14))
	for range 1000 {
		c := random(r)
		d := shuffled(r, c)
		a, e := config.Compile(c)
		b, f := config.Compile(d)
		if (e == api.OK) != (f == api.OK) {
			t.Fatalf("Compile(%+v): %d, and %d in another order", c, e, f)
		}
		if e != api.OK {
			continue
		}
		if !equal(a.Conf(), b.Conf()) || !slices.Equal(a.Tree().IDs(), b.Tree().IDs()) ||
			!slices.Equal(slices.Collect(a.Table().All()), slices.Collect(b.Table().All())) || a.Quota().Given() != b.Quota().Given() {
			t.Fatalf("in another order %+v is %+v", a.Conf(), b.Conf())
		}
		for range 10 {
			if k := randomKey(r); a.Leaf(k) != b.Leaf(k) {
				t.Fatalf("%+v: Leaf(%+v) = %d, and %d in another order", c, k, a.Leaf(k), b.Leaf(k))
			}
		}
	}
}

func TestAnything(t *testing.T) { // P6
	r := rand.New(rand.NewSource(6))
	n := func() int {
		return pick(r, math.MinInt, -1, 0, 1, 2, 3, 4, 17, 64, 65535, 65536, 1<<20, math.MaxInt)
	}
	x := func() float64 {
		return pick(r, math.NaN(), math.Inf(1), math.Inf(-1), 0, -1, 1e-9, 0.25, 0.5, 1, 2, math.MaxFloat64, math.SmallestNonzeroFloat64)
	}
	for range 5000 {
		c := api.Config{Tpb: n(), Rule: r.Intn(4) - 1, Default: n()}
		for range r.Intn(5) {
			c.Classes = append(c.Classes, api.Class{ID: n(), Parent: n(), Share: x(), Prio: n(), Quantum: n(), Limit: n(), Weight: n(), MinIdle: n(), MaxIdle: n()})
		}
		for range r.Intn(5) {
			c.Filters = append(c.Filters, api.Filter{ID: n(), Prio: n(), Version: n(), SrcLen: n(), DstLen: n(), Proto: n(), SrcPorts: api.Span{Low: n(), High: n()}, Leaf: n()})
		}
		want := wrong(c)
		if s, e := config.Compile(c); e != want || (s == nil) == (e == api.OK) || config.Check(c) != want {
			t.Fatalf("Compile(%+v) = %v, %d, not %d", c, s, e, want)
		}
		if !equal(config.Canon(c), canon(c)) || !config.Same(c, config.Canon(c)) {
			t.Fatalf("Canon(%+v) = %+v", c, config.Canon(c))
		}
	}
	fails(t, "a thousand classes", api.Config{Tpb: 1, Classes: make([]api.Class, 1000)}, api.ErrFull)
}
