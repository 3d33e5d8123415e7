package gauge_test

import (
	"math"
	"math/rand"
	"slices"
	"testing"

	"flashlock/api"
	"flashlock/config"
	"flashlock/gauge"
	"flashlock/idle"
)

var wild = []int{math.MinInt, math.MinInt32, -1, 0, 1, 2, 3, 8, 9, 2048, 2049, 65535, 65536, 1 << 60, math.MaxInt}

// of returns a class whose average decays by the Weight id % 5.
func of(id, parent int, share float64) api.Class {
	return api.Class{ID: id, Parent: parent, Share: share, Quantum: 1, Limit: 1, Weight: id % 5, MinIdle: -1000 * id, MaxIdle: 10 * id}
}

func compile(t *testing.T, tpb, leaf int, l ...api.Class) *config.Set {
	t.Helper()
	s, e := config.Compile(api.Config{Tpb: tpb, Default: leaf, Classes: l})
	if e != api.OK {
		t.Fatal("Compile:", e)
	}
	return s
}

// family is the root 1 with 2 and 3 below it, 4 and 5 below 3, and 6 below 5.
func family(t *testing.T) *config.Set {
	return compile(t, 10, 4, of(1, 0, 1), of(2, 1, 0.25), of(3, 1, 0.5), of(4, 3, 0.25), of(5, 3, 0.125), of(6, 5, 0.0625))
}

// ways are the classes that a packet of each leaf of family affects.
func ways() [][]int { return [][]int{2: {2, 1}, 4: {4, 3, 1}, 6: {6, 5, 3, 1}} }

func has(t *testing.T, g *gauge.Gauge, id int, want idle.State) {
	t.Helper()
	if got, ok := g.State(id); got != want || !ok {
		t.Errorf("State(%d) = %v, %v, not %v", id, got, ok, want)
	}
}

func hasNot(t *testing.T, g *gauge.Gauge, ids ...int) {
	t.Helper()
	for _, id := range ids {
		if got, ok := g.State(id); got != (idle.State{}) || ok {
			t.Errorf("State(%d) = %v, %v", id, got, ok)
		}
	}
}

// states returns the states of those classes.
func states(g *gauge.Gauge, ids []int) []idle.State {
	var l []idle.State
	for _, id := range ids {
		state, _ := g.State(id)
		l = append(l, state)
	}
	return l
}

// class returns the class of a set.
func class(s *config.Set, id int) api.Class {
	c, _ := s.Class(id)
	return c
}

func TestExample(t *testing.T) { // P26.1, P26.2
	g := gauge.New(compile(t, 1, 1, api.Class{ID: 1, Share: 1, Quantum: 1, Limit: 1, Weight: 1, MinIdle: -100}), 0)
	if !g.Sent(1, 8, 0) || !g.Over(1, 11) || g.Over(1, 12) {
		t.Error("after eight bytes at time 0")
	}
	has(t, g, 1, idle.State{Avg: -4, Until: 12})
	if g.Wake(1, 3) != 12 || g.Wake(1, 11) != 12 || g.Wake(1, 12) != 12 || g.Wake(1, 13) != 13 {
		t.Error("Wake")
	}
	if !slices.Equal(g.Overs(11), []int{1}) || len(g.Overs(12)) != 0 {
		t.Error("Overs")
	}
}

func TestNew(t *testing.T) { // P26.1
	s := family(t)
	for _, now := range []int{0, 5, -7, 1 << 60, math.MaxInt, math.MinInt} {
		g := gauge.New(s, now)
		for _, id := range s.IDs() {
			has(t, g, id, idle.New(class(s, id), now))
		}
		hasNot(t, g, wild[:4]...)
		hasNot(t, g, 7, 65535, math.MaxInt)
	}
	has(t, gauge.New(s, 5), 3, idle.State{Last: 5, Avg: 30})
	if gauge.New(nil, 5) != nil {
		t.Error("a gauge of no set")
	}
}

func TestSent(t *testing.T) { // P26.1, P26.3
	s := family(t)
	for _, leaf := range s.Leaves() {
		for _, size := range []int{1, 8, 9, 100, 2048} {
			g := gauge.New(s, 3)
			if !g.Sent(leaf, size, 50) {
				t.Fatalf("Sent(%d) = false", leaf)
			}
			for _, id := range s.IDs() {
				want := idle.New(class(s, id), 3)
				if slices.Contains(ways()[leaf], id) {
					want = idle.Sent(want, class(s, id), s.Time(id, size), 50)
				}
				has(t, g, id, want)
			}
		}
	}
	// Each class on the path has a time of its own: 80 ticks of the whole link.
	g := gauge.New(s, 0)
	g.Sent(4, 8, 1000)
	has(t, g, 1, idle.Sent(idle.State{Avg: 10}, class(s, 1), 80, 1000))
	has(t, g, 3, idle.Sent(idle.State{Avg: 30}, class(s, 3), 160, 1000))
	has(t, g, 4, idle.Sent(idle.State{Avg: 40}, class(s, 4), 320, 1000))
}

func TestSentByNoLeaf(t *testing.T) { // P26.1
	s := family(t)
	g := gauge.New(s, 0)
	g.Sent(6, 100, 0)
	before := states(g, s.IDs())
	for _, id := range []int{1, 3, 5, 0, 7, -1, 65536, math.MinInt, math.MaxInt} {
		if g.Sent(id, 100, 10) {
			t.Errorf("Sent(%d) = true", id)
		}
		if !slices.Equal(states(g, s.IDs()), before) {
			t.Fatalf("Sent(%d) changed a state", id)
		}
		if id < 1 || id > 5 {
			hasNot(t, g, id)
		}
	}
}

func TestSizes(t *testing.T) { // P26.1: sizes that no packet has take the time that quota gives them
	s := family(t)
	for _, size := range []int{math.MinInt, -1, 0, 2049, math.MaxInt} {
		g := gauge.New(s, 0)
		if !g.Sent(2, size, 9) {
			t.Errorf("Sent of %d bytes = false", size)
		}
		has(t, g, 2, idle.Sent(idle.New(class(s, 2), 0), class(s, 2), s.Time(2, size), 9))
	}
}

func TestOvers(t *testing.T) { // P26.2
	s := family(t)
	g := gauge.New(s, 0)
	if len(g.Overs(0)) != 0 {
		t.Error("over without a packet")
	}
	g.Sent(6, 1500, 0)
	var untils []int
	for _, id := range ways()[6] {
		state, _ := g.State(id)
		untils = append(untils, state.Until)
	}
	untils = append(untils, 0, math.MinInt, math.MaxInt)
	for _, until := range untils {
		for _, now := range []int{until, until - 1, until + 1} {
			var want []int
			for _, id := range s.IDs() {
				// Before time 0 this includes those that never sent: their Until is 0.
				if state, _ := g.State(id); state.Until > now {
					want = append(want, id)
				}
			}
			if got := g.Overs(now); !slices.Equal(got, want) {
				t.Errorf("Overs(%d) = %v, not %v", now, got, want)
			}
		}
	}
	if !slices.Equal(g.Overs(0), []int{1, 3, 5, 6}) {
		t.Error("Overs(0) =", g.Overs(0))
	}
}

func TestOverAndWake(t *testing.T) { // P26.2
	s := family(t)
	g := gauge.New(s, 0)
	g.Sent(2, 1500, 0)
	for _, id := range []int{2, 1} {
		state, _ := g.State(id)
		until := state.Until
		if until < 2 {
			t.Fatal("not over its limit:", id)
		}
		if !g.Over(id, until-1) || g.Over(id, until) || g.Over(id, until+1) {
			t.Error("Over of", id)
		}
		if g.Wake(id, 1) != until || g.Wake(id, until-1) != until || g.Wake(id, until) != until || g.Wake(id, until+1) != until+1 {
			t.Error("Wake of", id)
		}
	}
	for _, now := range []int{0, 1, 5, math.MaxInt} {
		for _, id := range []int{3, 4, 0, 7, -1} {
			if g.Over(id, now) || g.Wake(id, now) != now {
				t.Errorf("Over(%d, %d) or its Wake", id, now)
			}
		}
	}
	// Before time 0, the Until 0 of a class is still to come; what is no class has none.
	for _, now := range []int{-1, -5, math.MinInt} {
		if !g.Over(4, now) || g.Wake(4, now) != 0 {
			t.Errorf("Over(4, %d) or its Wake", now)
		}
		if g.Over(7, now) || g.Wake(7, now) != now || g.Over(0, now) || g.Wake(0, now) != now {
			t.Errorf("at %d, what is no class is over its limit", now)
		}
	}
}

func TestCarryUnchanged(t *testing.T) { // P26.2, P26.3
	s := family(t)
	g := gauge.New(s, 0)
	g.Sent(6, 100, 0)
	g.Sent(2, 900, 40)
	before := states(g, s.IDs())
	h := g.Carry(family(t), 777)
	if !slices.Equal(states(h, s.IDs()), before) {
		t.Error("Carry changed a state of an unchanged class")
	}
	h.Sent(6, 100, 900)
	if !slices.Equal(states(g, s.IDs()), before) {
		t.Error("a gauge and what was carried over are one")
	}
}

func TestCarryChanged(t *testing.T) { // P26.2
	s := family(t)
	g := gauge.New(s, 0)
	g.Sent(6, 1500, 0)
	g.Sent(2, 1500, 10)
	narrow, wide := of(2, 1, 0.25), of(3, 0, 1)
	narrow.MinIdle, narrow.MaxIdle = -2, 0
	wide.MinIdle, wide.Weight = -1<<40, 16
	narrow.Parent = 3
	// 1, 4 and 5 are dropped, 3 is the root now, 2 and 6 are below it, 7 is new.
	after := compile(t, 3, 6, wide, narrow, of(6, 3, 0.1), of(7, 3, 0.1))
	h := g.Carry(after, 99)
	hasNot(t, h, 1, 4, 5)
	has(t, h, 7, idle.New(of(7, 3, 0.1), 99))
	for _, id := range []int{2, 3, 6} {
		old, _ := g.State(id)
		has(t, h, id, idle.Carry(old, class(after, id)))
	}
	if got, _ := h.State(2); got.Avg != -2 {
		t.Error("the average is beyond its bounds:", got)
	}
	old, _ := g.State(3)
	has(t, h, 3, old)
	// From now on the new set's classes, paths and times hold.
	before := states(h, []int{2, 3, 6, 7})
	if h.Sent(4, 8, 200) || !h.Sent(7, 8, 200) {
		t.Error("Sent of a carried gauge")
	}
	has(t, h, 2, before[0])
	has(t, h, 6, before[2])
	has(t, h, 3, idle.Sent(before[1], wide, 24, 200))
	has(t, h, 7, idle.Sent(before[3], of(7, 3, 0.1), after.Time(7, 8), 200))
	if !slices.Equal(h.Overs(math.MinInt), []int{2, 3, 6, 7}) {
		t.Error("Overs of a carried gauge:", h.Overs(math.MinInt))
	}
}

func TestCopy(t *testing.T) { // P26.2
	s := family(t)
	g := gauge.New(s, 0)
	g.Sent(6, 100, 0)
	before := states(g, s.IDs())
	h := g.Copy()
	if h == g || !slices.Equal(states(h, s.IDs()), before) {
		t.Fatal("Copy has other states")
	}
	h.Sent(6, 100, 10)
	if !slices.Equal(states(g, s.IDs()), before) {
		t.Error("a change of the copy shows in the original")
	}
	h = g.Copy()
	g.Sent(4, 100, 10)
	if !slices.Equal(states(h, s.IDs()), before) {
		t.Error("a change of the original shows in the copy")
	}
	if !h.Sent(4, 100, 10) || !slices.Equal(states(h, s.IDs()), states(g, s.IDs())) {
		t.Error("the copy goes on otherwise")
	}
}

func TestNil(t *testing.T) { // P26.2
	var g *gauge.Gauge
	hasNot(t, g, 0, 1)
	if g.Sent(1, 8, 0) || g.Over(1, -9) || len(g.Overs(-9)) != 0 || g.Copy() != nil || g.Carry(nil, 5) != nil {
		t.Error("a nil gauge")
	}
	for _, now := range wild {
		if g.Wake(1, now) != now {
			t.Error("Wake of a nil gauge")
		}
	}
	s := family(t)
	h := g.Carry(s, 5)
	if !slices.Equal(states(h, s.IDs()), states(gauge.New(s, 5), s.IDs())) || !h.Sent(2, 8, 5) {
		t.Error("Carry of a nil gauge")
	}
	if h.Carry(nil, 5) != nil {
		t.Error("a gauge of no set")
	}
}

// model is the states of classes, with every class's path.
type model struct {
	set    *config.Set
	states map[int]idle.State
}

func start(s *config.Set, now int) model {
	m := model{set: s, states: map[int]idle.State{}}
	for _, id := range s.IDs() {
		m.states[id] = idle.New(class(s, id), now)
	}
	return m
}

func (m model) sent(leaf, size, now int) bool {
	if !m.set.Tree().Leaf(leaf) {
		return false
	}
	for id := leaf; id != 0; id = class(m.set, id).Parent {
		m.states[id] = idle.Sent(m.states[id], class(m.set, id), m.set.Time(id, size), now)
	}
	return true
}

func (m model) carry(s *config.Set, now int) model {
	next := start(s, now)
	for id, state := range m.states {
		if c, ok := s.Class(id); ok {
			next.states[id] = idle.Carry(state, c)
		}
	}
	return next
}

// random returns a set of random classes with IDs up to 12.
func random(t *testing.T, r *rand.Rand) *config.Set {
	ids := r.Perm(12)[:1+r.Intn(8)]
	var l []api.Class
	for i, id := range ids {
		c := of(id+1, 0, 1)
		if i > 0 {
			c.Parent, c.Share = l[r.Intn(min(i, 4))].ID, math.Ldexp(1, -2*i)
		}
		c.Weight, c.MinIdle, c.MaxIdle = r.Intn(17), -r.Intn(3000), r.Intn(100)
		l = append(l, c)
	}
	parents := map[int]int{}
	for _, c := range l {
		parents[c.Parent]++
	}
	leaf := 0
	for _, c := range l {
		if parents[c.ID] == 0 {
			leaf = c.ID
		}
	}
	return compile(t, 1+r.Intn(20), leaf, l...)
}

func TestSecondImplementation(t *testing.T) { // P26.1, P26.2, P26.3
	r := rand.New(rand.NewSource(26))
	for range 60 {
		s := random(t, r)
		now := r.Intn(100)
		g, m := gauge.New(s, now), start(s, now)
		for range 60 {
			now += r.Intn(500)
			switch r.Intn(12) {
			case 0:
				s = random(t, r)
				g, m = g.Carry(s, now), m.carry(s, now)
			case 1:
				g = g.Copy()
			default:
				leaf, size := 1+r.Intn(12), 1+r.Intn(200)
				if got, want := g.Sent(leaf, size, now), m.sent(leaf, size, now); got != want {
					t.Fatalf("Sent(%d) = %v", leaf, got)
				}
			}
			var overs []int
			for id := range 14 {
				state, ok := m.states[id]
				if got, found := g.State(id); got != state || found != ok {
					t.Fatalf("State(%d) = %v, %v, not %v, %v", id, got, found, state, ok)
				}
				over, wake := ok && state.Until > now, now
				if over {
					overs, wake = append(overs, id), state.Until
				}
				if g.Over(id, now) != over || g.Wake(id, now) != wake {
					t.Fatalf("Over or Wake of %d at %d", id, now)
				}
			}
			if got := g.Overs(now); !slices.Equal(got, overs) {
				t.Fatalf("Overs(%d) = %v, not %v", now, got, overs)
			}
		}
	}
}

func TestAnything(t *testing.T) { // P6
	s := family(t)
	for _, g := range []*gauge.Gauge{nil, gauge.New(s, 0), gauge.New(s, math.MaxInt)} {
		for _, a := range wild {
			for _, b := range wild {
				for _, c := range wild {
					g.Sent(a, b, c)
				}
				g.Over(a, b)
				g.Wake(a, b)
			}
			g.State(a)
			g.Overs(a)
			g.Carry(s, a).Sent(2, a, a)
			g.Carry(nil, a)
			g.Copy().Sent(4, a, a)
		}
	}
}
