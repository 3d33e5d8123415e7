package plan_test

import (
	"math"
	"math/rand"
	"slices"
	"testing"

	"flashlock/api"
	"flashlock/config"
	"flashlock/edit"
	"flashlock/plan"
	"flashlock/queues"
)

var (
	all  = api.Span{High: 65535}
	wild = []int{math.MinInt, -1, 0, 1, 2, 3, 4, 5, 2048, 65535, 65536, math.MaxInt}
)

// of returns a class with that Limit.
func of(id, parent, limit int) api.Class {
	c := api.Class{ID: id, Parent: parent, Share: 1.0 / 64, Quantum: 100, Limit: limit}
	if parent == 0 {
		c.Share = 1
	}
	return c
}

// from returns the key of a flow of UDP from a port.
func from(port int) api.Key {
	return api.Key{Version: 4, Src: api.Addr{Lo: 1}, Dst: api.Addr{Lo: 2}, Proto: 17, SrcPort: port, DstPort: 53}
}

// to returns a filter that assigns the flows from a port to a leaf.
func to(port, leaf int) api.Filter {
	return api.Filter{ID: port, Version: 4, Proto: 17, SrcPorts: api.Span{Low: port, High: port}, DstPorts: all, Leaf: leaf}
}

func compile(t *testing.T, c api.Config) *config.Set {
	t.Helper()
	s, e := config.Compile(c)
	if e != api.OK {
		t.Fatal("Compile:", e)
	}
	return s
}

// family has the leaves 2, 3 and 4 with the Limits 2, 3 and 100. Flows from the ports 2 and 3 go there, all others to 4.
func family(t *testing.T) *config.Set {
	return compile(t, api.Config{
		Tpb: 1, Default: 4,
		Classes: []api.Class{of(1, 0, 50), of(2, 1, 2), of(3, 1, 3), of(4, 1, 100)},
		Filters: []api.Filter{to(2, 2), to(3, 3)},
	})
}

func step(from, to int) edit.Step { return edit.Step{From: from, To: to} }

// row returns the packet of a flow from a port, waiting at a leaf.
func row(leaf, seq, port int) queues.Row {
	return queues.Row{Leaf: leaf, Packet: api.Packet{Seq: seq, Size: 10 + seq, Key: from(port)}}
}

// at returns rows of those leaves.
func at(leaves ...int) []queues.Row {
	var l []queues.Row
	for i, leaf := range leaves {
		l = append(l, row(leaf, i+1, 9))
	}
	return l
}

func goes(t *testing.T, s *config.Set, l []queues.Row, steps []edit.Step, strict bool, leaves ...int) {
	t.Helper()
	before, way := slices.Clone(l), slices.Clone(steps)
	want := slices.Clone(l)
	for i, leaf := range leaves {
		want[i].Leaf = leaf
	}
	if got, e := plan.Of(s, l, steps, strict); e != api.OK || !slices.Equal(got, want) {
		t.Errorf("Of(%v, %v, %v) = %v, %d, not %v", l, steps, strict, got, e, want)
	}
	if !slices.Equal(l, before) || !slices.Equal(steps, way) {
		t.Error("the arguments are changed")
	}
}

func fails(t *testing.T, s *config.Set, l []queues.Row, steps []edit.Step, strict bool, want api.Errno) {
	t.Helper()
	if got, e := plan.Of(s, l, steps, strict); e != want || len(got) != 0 {
		t.Errorf("Of(%v, %v, %v) = %v, %d, not %d", l, steps, strict, got, e, want)
	}
}

func fits(t *testing.T, s *config.Set, l []queues.Row, want api.Errno) {
	t.Helper()
	if e := plan.Fits(s, l); e != want {
		t.Errorf("Fits(%v) = %d, not %d", l, e, want)
	}
}

func needs(t *testing.T, s *config.Set, l []queues.Row, want ...edit.Step) {
	t.Helper()
	before := slices.Clone(l)
	if got, ok := plan.Needed(s, l); !slices.Equal(got, want) || !ok {
		t.Errorf("Needed(%v) = %v, %v, not %v", l, got, ok, want)
	}
	if !slices.Equal(l, before) {
		t.Error("the rows are changed")
	}
}

func needsMore(t *testing.T, s *config.Set, l []queues.Row) {
	t.Helper()
	if got, ok := plan.Needed(s, l); len(got) != 0 || ok {
		t.Errorf("Needed(%v) = %v, %v", l, got, ok)
	}
}

func TestExample(t *testing.T) { // P41.1
	s := compile(t, api.Config{Tpb: 1, Default: 2, Classes: []api.Class{of(2, 0, 1)}})
	l := []queues.Row{row(1, 1, 9)}
	fails(t, s, l, nil, true, api.ErrMove)
	goes(t, s, l, []edit.Step{step(1, 2)}, true, 2)
	goes(t, s, l, nil, false, 2)
	needs(t, s, l, step(1, 2))
}

func TestWholeExamples(t *testing.T) { // P41.1: the examples 7 and 8 of the whole
	classes := []api.Class{of(1, 0, 9), of(2, 1, 9), of(3, 1, 9)}
	s := compile(t, api.Config{Tpb: 1, Default: 3, Classes: classes})
	l := []queues.Row{row(2, 1, 5), row(2, 2, 6)}
	fails(t, s, l, nil, true, api.ErrMove)
	goes(t, s, l, []edit.Step{step(2, 3)}, true, 3, 3)
	classes[2].Limit = 1
	s = compile(t, api.Config{Tpb: 1, Default: 3, Classes: classes})
	fails(t, s, l, []edit.Step{step(2, 3)}, true, api.ErrLimit)
	fails(t, s, l, nil, false, api.ErrLimit)
}

func TestNil(t *testing.T) { // P41.1, P41.2
	for _, l := range [][]queues.Row{nil, at(1), at(2, 3)} {
		fails(t, nil, l, nil, false, api.ErrArg)
		fails(t, nil, l, []edit.Step{step(1, 2)}, true, api.ErrArg)
		fits(t, nil, l, api.ErrArg)
		needsMore(t, nil, l)
	}
	s := family(t)
	goes(t, s, nil, nil, true)
	goes(t, s, []queues.Row{}, nil, false)
	fits(t, s, nil, api.OK)
	needs(t, s, nil)
}

func TestOf(t *testing.T) { // P41.1
	s := family(t)
	l := []queues.Row{row(4, 1, 2), row(2, 2, 3), row(77, 3, 9), row(3, 4, 2), row(-5, 5, 0), row(2, 6, 3)}
	goes(t, s, l, nil, false, 2, 3, 4, 2, 4, 3)
	goes(t, s, l, []edit.Step{step(4, 9), step(2, 2)}, false, 2, 3, 4, 2, 4, 3) // the steps do not count
	// Malformed packets go to Default.
	goes(t, s, []queues.Row{{Leaf: 2, Packet: api.Packet{Seq: 1, Size: 5}}}, nil, false, 4)
	// What is not the key of a packet stays as it is, too.
	odd := []queues.Row{{Leaf: 4, Packet: api.Packet{Seq: math.MinInt, Size: math.MaxInt, Key: api.Key{Version: 9, Proto: -1}}}}
	goes(t, s, odd, nil, true, 4)
}

func TestStrict(t *testing.T) { // P41.1
	s := family(t)
	l := []queues.Row{row(2, 1, 2), row(7, 2, 3), row(4, 3, 9), row(8, 4, 3)}
	goes(t, s, l, []edit.Step{step(7, 3), step(8, 3)}, true, 2, 3, 4, 3)
	goes(t, s, l, []edit.Step{step(8, 3), step(9, 4), step(7, 3)}, true, 2, 3, 4, 3)
	goes(t, s, l, []edit.Step{step(7, 3), step(8, 3), step(2, 2), step(4, 4)}, true, 2, 3, 4, 3)
	for _, steps := range [][]edit.Step{
		nil,
		{step(7, 3)},
		{step(8, 3)},
		{step(7, 4), step(8, 3)},
		{step(7, 3), step(8, 2)},
		{step(3, 7), step(8, 3)},
		{step(7, 3), step(8, 3), step(2, 3)}, // what stays must stay
		{step(7, 3), step(8, 3), step(4, 5)}, // the step leads elsewhere
		{step(7, 4), step(7, 3), step(8, 3)}, // the first step counts
		{step(7, 8), step(8, 3)},             // a step is not followed by another one
		{step(7, 3), step(8, 3), step(4, 2), step(2, 4)}, // of leaves that stay
	} {
		fails(t, s, l, steps, true, api.ErrMove)
		goes(t, s, l, steps, false, 2, 3, 4, 3)
	}
	// Packets of one leaf that part: no steps will do.
	parting := []queues.Row{row(7, 1, 2), row(7, 2, 3)}
	for _, steps := range [][]edit.Step{nil, {step(7, 2)}, {step(7, 3)}, {step(7, 2), step(7, 3)}} {
		fails(t, s, parting, steps, true, api.ErrMove)
	}
	goes(t, s, parting, nil, false, 2, 3)
	fails(t, s, []queues.Row{row(2, 1, 2), row(2, 2, 3)}, nil, true, api.ErrMove)
	fails(t, s, []queues.Row{row(3, 1, 2), row(3, 2, 3)}, nil, true, api.ErrMove)
}

func TestOfLimits(t *testing.T) { // P41.1
	s := family(t)
	l := []queues.Row{row(2, 1, 2), row(2, 2, 2)}
	goes(t, s, l, nil, true, 2, 2)
	l = append(l, row(2, 3, 2))
	fails(t, s, l, nil, true, api.ErrLimit)
	fails(t, s, l, nil, false, api.ErrLimit)
	// The move counts first, wherever it is.
	fails(t, s, append(slices.Clone(l), row(2, 4, 3)), nil, true, api.ErrMove)
	fails(t, s, append([]queues.Row{row(2, 4, 3)}, l...), nil, true, api.ErrMove)
	fails(t, s, append(slices.Clone(l), row(2, 4, 3)), nil, false, api.ErrLimit)
	// Only the new leaves are limited.
	l = []queues.Row{row(2, 1, 9), row(2, 2, 9), row(2, 3, 9), row(2, 4, 9)}
	goes(t, s, l, []edit.Step{step(2, 4)}, true, 4, 4, 4, 4)
	l = []queues.Row{row(4, 1, 2), row(3, 2, 2), row(2, 3, 2)}
	fails(t, s, l, []edit.Step{step(4, 2), step(3, 2)}, true, api.ErrLimit)
	fails(t, s, l, []edit.Step{step(4, 2)}, true, api.ErrMove)
}

func TestFits(t *testing.T) { // P41.1
	s := family(t)
	fits(t, s, at(2, 2), api.OK)
	fits(t, s, at(2, 2, 2), api.ErrLimit)
	fits(t, s, at(3, 2, 3, 2, 3), api.OK)
	fits(t, s, at(3, 2, 3, 2, 3, 3), api.ErrLimit)
	fits(t, s, at(3, 2, 3, 2, 3, 2), api.ErrLimit)
	for _, id := range []int{1, 0, 5, -1, 65536, math.MinInt, math.MaxInt} {
		fits(t, s, at(id), api.ErrLeaf)
		fits(t, s, at(2, 3, id), api.ErrLeaf)
		// The first row that has an error.
		fits(t, s, at(2, 2, id, 2), api.ErrLeaf)
		fits(t, s, at(2, 2, 2, id), api.ErrLimit)
	}
	many := at(slices.Repeat([]int{4}, 100)...)
	fits(t, s, many, api.OK)
	fits(t, s, append(many, at(4)...), api.ErrLimit)
	// The key does not count.
	fits(t, s, []queues.Row{row(3, 1, 2), row(2, 2, 3)}, api.OK)
}

func TestMoved(t *testing.T) { // P41.2
	for _, c := range []struct {
		a, b []queues.Row
		want int
	}{
		{nil, nil, 0}, {at(1), nil, 0}, {nil, at(1, 2), 0},
		{at(1, 2, 3), at(1, 2, 3), 0}, {at(1, 2, 3), at(1, 3, 2), 2}, {at(1, 2, 3), at(2, 3, 1), 3},
		{at(1, 2, 3, 4), at(5), 1}, {at(5), at(1, 2, 3, 4), 1}, {at(5), at(5, 2, 3, 4), 0},
		{at(1, 2, 3), at(1, 9), 1}, {at(0, math.MinInt), at(math.MaxInt, -1), 2},
		{[]queues.Row{row(2, 1, 7)}, []queues.Row{row(2, 5, 8)}, 0}, // only the leaves count
	} {
		a, b := slices.Clone(c.a), slices.Clone(c.b)
		if got := plan.Moved(c.a, c.b); got != c.want {
			t.Errorf("Moved(%v, %v) = %d, not %d", c.a, c.b, got, c.want)
		}
		if plan.Moved(c.b, c.a) != c.want || !slices.Equal(a, c.a) || !slices.Equal(b, c.b) {
			t.Error("the other way round, or changed")
		}
	}
}

func TestNeeded(t *testing.T) { // P41.2, P41.3
	s := family(t)
	// No packet moves: no steps.
	needs(t, s, []queues.Row{row(2, 1, 2), row(3, 2, 3), row(4, 3, 9), row(4, 4, 8)})
	needs(t, s, []queues.Row{row(9, 1, 2), row(5, 2, 3), row(7, 3, 9), row(4, 4, 9), row(5, 5, 3), row(-3, 6, 2)},
		step(-3, 2), step(5, 3), step(7, 4), step(9, 2))
	// Two leaves exchange their packets.
	needs(t, s, []queues.Row{row(3, 1, 2), row(2, 2, 3), row(3, 3, 2)}, step(2, 3), step(3, 2))
	// The limits do not count here.
	l := []queues.Row{row(4, 1, 2), row(4, 2, 2), row(4, 3, 2)}
	needs(t, s, l, step(4, 2))
	fails(t, s, l, []edit.Step{step(4, 2)}, true, api.ErrLimit)
	// Rows of one leaf that part.
	needsMore(t, s, []queues.Row{row(7, 1, 2), row(7, 2, 3)})
	needsMore(t, s, []queues.Row{row(2, 1, 2), row(2, 2, 3)})
	needsMore(t, s, []queues.Row{row(2, 1, 3), row(2, 2, 2)})
	needsMore(t, s, []queues.Row{row(5, 1, 2), row(7, 1, 2), row(7, 2, 9), row(7, 3, 2), row(6, 4, 2)})
	needsMore(t, s, []queues.Row{row(0, 1, 2), row(0, 2, 9)})
}

func TestOneFlow(t *testing.T) { // P41.3: a key has one leaf, and its packets keep their order
	s := family(t)
	r := rand.New(rand.NewSource(413))
	for range 50 {
		var l []queues.Row
		for seq := range 12 {
			l = append(l, row(2+r.Intn(6), seq, 9+r.Intn(3)))
		}
		got, e := plan.Of(s, l, nil, false)
		if e != api.OK || len(got) != len(l) {
			t.Fatal(got, e)
		}
		leaves := map[api.Key]int{}
		for i, x := range got {
			if x.Packet != l[i].Packet {
				t.Fatalf("row %d is another packet", i)
			}
			if leaf, ok := leaves[x.Packet.Key]; ok && leaf != x.Leaf {
				t.Fatal("a key with two leaves")
			}
			leaves[x.Packet.Key] = x.Leaf
		}
	}
}

func TestOwnership(t *testing.T) { // P41.1, P41.2
	s := family(t)
	long := []queues.Row{row(2, 1, 2), row(7, 2, 3), row(8, 3, 3), row(50, 4, 4), row(51, 5, 5)}
	way := []edit.Step{step(7, 3), step(8, 3), step(4, 9)}
	before, steps := slices.Clone(long), slices.Clone(way)
	a, _ := plan.Of(s, long[:3], way[:2], true)
	b, _ := plan.Of(s, long[:3], way[:2], false)
	plan.Fits(s, long[:3])
	plan.Moved(long[:3], a)
	plan.Needed(s, long[:3])
	if !slices.Equal(long, before) || !slices.Equal(way, steps) {
		t.Error("the arguments are changed")
	}
	want := slices.Clone(b)
	a[0].Leaf = 99
	clear(long)
	if !slices.Equal(b, want) {
		t.Error("the result shares memory")
	}
}

// naive works out the new leaves from the configuration itself.
func naive(c api.Config, l []queues.Row, steps []edit.Step, strict bool) ([]queues.Row, api.Errno) {
	var rows []queues.Row
	counts := map[int]int{}
	wrong := api.OK
	for _, x := range l {
		leaf := c.Default
		for _, f := range c.Filters {
			if x.Packet.Key.SrcPort == f.SrcPorts.Low {
				leaf = f.Leaf
			}
		}
		told := x.Leaf
		for i := len(steps) - 1; i >= 0; i-- {
			if steps[i].From == x.Leaf {
				told = steps[i].To
			}
		}
		if strict && told != leaf {
			return nil, api.ErrMove
		}
		counts[leaf]++
		for _, k := range c.Classes {
			if k.ID == leaf && counts[leaf] > k.Limit {
				wrong = api.ErrLimit
			}
		}
		x.Leaf = leaf
		rows = append(rows, x)
	}
	if wrong != api.OK {
		return nil, wrong
	}
	return rows, api.OK
}

func TestSecondImplementation(t *testing.T) { // P41.1, P41.2, P41.3
	r := rand.New(rand.NewSource(41))
	done, told := map[api.Errno]int{}, 0
	for range 3000 {
		c := api.Config{Tpb: 1, Default: 2 + r.Intn(5), Classes: []api.Class{of(1, 0, 1)}}
		for id := 2; id < 7; id++ {
			c.Classes = append(c.Classes, of(id, 1, 2+r.Intn(12)))
		}
		for port := 1; port < 5; port++ {
			c.Filters = append(c.Filters, to(port, 2+r.Intn(5)))
		}
		s := compile(t, c)
		var l []queues.Row
		for seq := range r.Intn(8) {
			port := r.Intn(6)
			// Mostly, a leaf has packets of one flow.
			leaf := port + 2
			if r.Intn(10) == 0 {
				leaf = r.Intn(9)
			}
			l = append(l, row(leaf, seq, port))
		}
		var steps []edit.Step
		for range r.Intn(4) {
			steps = append(steps, step(r.Intn(8), 2+r.Intn(5)))
		}
		needed, ok := plan.Needed(s, l)
		if r.Intn(2) == 0 {
			steps = needed
		}
		for _, strict := range []bool{false, true} {
			want, wrong := naive(c, l, steps, strict)
			got, e := plan.Of(s, l, steps, strict)
			if e != wrong || !slices.Equal(got, want) {
				t.Fatalf("Of(%v, %v, %v) = %v, %d, not %v, %d", l, steps, strict, got, e, want, wrong)
			}
			done[e]++
		}
		// The steps that are needed will do, and none of them is idle.
		free, e := plan.Of(s, l, nil, false)
		strictly, f := plan.Of(s, l, needed, true)
		if ok && (e != f || !slices.Equal(free, strictly)) || !ok && f != api.ErrMove {
			t.Fatalf("Needed(%v) = %v, %v, which come to %v, %d", l, needed, ok, strictly, f)
		}
		if ok {
			told++
			for i, x := range needed {
				less := slices.Delete(slices.Clone(needed), i, i+1)
				if _, e := plan.Of(s, l, less, true); e != api.ErrMove || x.From == x.To || i > 0 && x.From <= needed[i-1].From {
					t.Fatalf("Needed(%v) = %v", l, needed)
				}
			}
			if e == api.OK && (plan.Moved(l, free) == 0) != (len(needed) == 0) {
				t.Fatalf("%d packets moved by %v", plan.Moved(l, free), needed)
			}
		}
	}
	for _, e := range []api.Errno{api.OK, api.ErrMove, api.ErrLimit} {
		if done[e] < 100 {
			t.Errorf("too few of %d: %d", e, done[e])
		}
	}
	if told < 500 || told > 2900 {
		t.Error("Needed was true", told, "times")
	}
}

func TestFill(t *testing.T) { // P41.1: rows that fit are taken by the queues of the new set
	s := family(t)
	q := queues.New(s, 100, 9999)
	for i, leaf := range []int{2, 3, 4, 3, 2, 4, 4} {
		q.Put(leaf, row(leaf, i, leaf).Packet)
	}
	rows, e := plan.Of(s, q.Rows(), nil, true)
	if e != api.OK || plan.Moved(q.Rows(), rows) != 0 {
		t.Fatal(rows, e)
	}
	next, e := q.Fill(s, rows)
	if e != api.OK || !slices.Equal(next.Rows(), q.Rows()) {
		t.Error("Fill:", e)
	}
}

func TestAnything(t *testing.T) { // P6
	for _, s := range []*config.Set{nil, family(t)} {
		for _, a := range wild {
			for _, b := range wild {
				l := []queues.Row{row(a, b, a), row(b, a, b), {Leaf: a}}
				l[0].Packet.Key.Version, l[1].Packet.Key.Proto = a, b
				for _, strict := range []bool{false, true} {
					plan.Of(s, l, []edit.Step{step(a, b), step(b, b), step(a, a)}, strict)
				}
				plan.Fits(s, l)
				plan.Needed(s, l)
				plan.Moved(l, l[:1])
			}
		}
	}
}
