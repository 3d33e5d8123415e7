package lend_test

import (
	"math"
	"math/rand"
	"slices"
	"testing"

	"flashlock/api"
	"flashlock/config"
	"flashlock/lend"
)

var (
	rules = []int{api.RuleAncestors, api.RuleTop, api.RuleFormal}
	wild  = []int{math.MinInt, math.MinInt32, -1, 0, 1, 2, 3, 4, 8, 9, 64, 65535, 65536, math.MaxInt}
)

func of(id, parent int) api.Class {
	return api.Class{ID: id, Parent: parent, Quantum: 1, Limit: 1}
}

func bounded(id, parent int) api.Class {
	c := of(id, parent)
	c.Bounded = true
	return c
}

func isolated(id, parent int) api.Class {
	c := of(id, parent)
	c.Isolated = true
	return c
}

// compile returns the set of those classes, the first of which is the root with the whole link and the last a leaf.
func compile(t *testing.T, rule int, l ...api.Class) *config.Set {
	t.Helper()
	l = slices.Clone(l)
	for i := range l {
		l[i].Share = part(l, l[i])
	}
	s, e := config.Compile(api.Config{Tpb: 1, Rule: rule, Default: l[len(l)-1].ID, Classes: l})
	if e != api.OK {
		t.Fatal("Compile:", e)
	}
	return s
}

// part returns as much for a class as its parent can give to each of its children.
func part(l []api.Class, c api.Class) float64 {
	brothers, parts := 0, 1.0
	for _, other := range l {
		if other.ID == c.Parent {
			parts = part(l, other)
		}
		if other.Parent == c.Parent {
			brothers++
		}
	}
	for n := 1; n < brothers; n *= 2 {
		parts /= 2
	}
	return parts
}

// depth returns how many classes are above a class.
func depth(l []api.Class, id int) int {
	for _, c := range l {
		if c.ID == id && c.Parent != 0 {
			return 1 + depth(l, c.Parent)
		}
	}
	return 0
}

func lends(t *testing.T, s *config.Set, x lend.State, leaf, want int) {
	t.Helper()
	got, ok := lend.Lender(s, x, leaf)
	if got != want || ok != (want != 0) {
		t.Errorf("rule %d: Lender(%+v, %d) = %d, %v, not %d", s.Conf().Rule, x, leaf, got, ok, want)
	}
}

func able(t *testing.T, s *config.Set, x lend.State, want ...int) {
	t.Helper()
	if got := lend.Able(s, x); !slices.Equal(got, want) {
		t.Errorf("rule %d: Able(%+v) = %v, not %v", s.Conf().Rule, x, got, want)
	}
}

func wanting(t *testing.T, s *config.Set, x lend.State, want ...int) {
	t.Helper()
	if got := lend.Wanting(s, x); !slices.Equal(got, want) {
		t.Errorf("Wanting(%+v) = %v, not %v", x, got, want)
	}
}

func TestExample(t *testing.T) { // P27.1
	l := []api.Class{of(1, 0), of(2, 1), of(3, 1)}
	one, both := lend.State{Over: []int{2}, Busy: []int{2}}, lend.State{Over: []int{2}, Busy: []int{2, 3}}
	lends(t, compile(t, api.RuleAncestors, l...), one, 2, 1)
	one.Top = 1
	lends(t, compile(t, api.RuleTop, l...), one, 2, 0)
	lends(t, compile(t, api.RuleFormal, l...), one, 2, 1)
	lends(t, compile(t, api.RuleFormal, l...), both, 2, 0)
}

// chainOf is the root 1, 2 below 1, and so on down to the leaf 5; 6 and 7 are leaves below 1 and 3.
func chainOf() []api.Class {
	return []api.Class{of(1, 0), of(2, 1), of(3, 2), of(4, 3), of(5, 4), of(6, 1), of(7, 3)}
}

func TestOwnAllowance(t *testing.T) { // P27.1, P27.3
	for _, rule := range rules {
		s := compile(t, rule, chainOf()...)
		for _, leaf := range []int{5, 6, 7} {
			lends(t, s, lend.State{}, leaf, leaf)
			lends(t, s, lend.State{Over: []int{1, 2, 3, 4}, Busy: []int{5, 6, 7}}, leaf, leaf)
			lends(t, s, lend.State{Top: -1}, leaf, leaf)
		}
		for _, id := range []int{1, 2, 3, 4, 0, 8, -1, 65536, math.MaxInt} {
			lends(t, s, lend.State{Top: 9}, id, 0)
			lends(t, s, lend.State{Over: []int{id}, Busy: []int{id}, Top: 9}, id, 0)
		}
	}
}

func TestAncestors(t *testing.T) { // P27.1: rule 0
	s := compile(t, api.RuleAncestors, chainOf()...)
	busy := []int{5, 6, 7}
	for _, top := range []int{-1, 0, 9} {
		lends(t, s, lend.State{Over: []int{5}, Busy: busy, Top: top}, 5, 4)
		lends(t, s, lend.State{Over: []int{5, 4}, Busy: busy, Top: top}, 5, 3)
		lends(t, s, lend.State{Over: []int{5, 3, 4}, Busy: busy, Top: top}, 5, 2)
		lends(t, s, lend.State{Over: []int{4, 3, 2, 5}, Busy: busy, Top: top}, 5, 1)
		lends(t, s, lend.State{Over: []int{5, 4, 3, 2, 1}, Busy: busy, Top: top}, 5, 0)
		lends(t, s, lend.State{Over: []int{6}, Busy: busy, Top: top}, 6, 1)
		lends(t, s, lend.State{Over: []int{6, 1}, Busy: busy, Top: top}, 6, 0)
	}
	// A leaf need not be busy to have a lender.
	lends(t, s, lend.State{Over: []int{5}}, 5, 4)
}

func TestWhoDoesNotBorrow(t *testing.T) { // P27.1: only leaf's Lenders lend
	for _, stop := range []func(id, parent int) api.Class{bounded, isolated} {
		for _, rule := range rules {
			l := chainOf()
			l[2] = stop(3, 2)
			s := compile(t, rule, l...)
			lends(t, s, lend.State{Over: []int{5}, Top: 9}, 5, 4)
			lends(t, s, lend.State{Over: []int{5, 4}, Top: 9}, 5, 3)
			lends(t, s, lend.State{Over: []int{5, 4, 3}, Top: 9}, 5, 0)
			l = chainOf()
			l[4] = stop(5, 4)
			s = compile(t, rule, l...)
			lends(t, s, lend.State{Over: []int{5}, Top: 9}, 5, 0)
			lends(t, s, lend.State{Over: []int{5}, Busy: []int{5}, Top: 9}, 5, 0)
			lends(t, s, lend.State{Top: 9}, 5, 5)
		}
	}
}

func TestTopLevel(t *testing.T) { // P27.1: rule 1
	// 5, 6 and 7 have the level 1, 4 has 2, 3 has 3, 2 has 4, 1 has 5.
	s := compile(t, api.RuleTop, chainOf()...)
	over := []int{5, 7}
	for top, want := range map[int]int{math.MinInt: 0, -1: 0, 0: 0, 1: 0, 2: 4, 3: 4, 5: 4, 8: 4, math.MaxInt: 4} {
		lends(t, s, lend.State{Over: over, Busy: []int{5, 6, 7}, Top: top}, 5, want)
	}
	for top, want := range map[int]int{2: 0, 3: 3, 4: 3} {
		lends(t, s, lend.State{Over: over, Top: top}, 7, want)
		lends(t, s, lend.State{Over: []int{4, 5}, Top: top}, 5, want)
	}
	for top, want := range map[int]int{3: 0, 4: 2, 5: 2} {
		lends(t, s, lend.State{Over: []int{3, 4, 5}, Top: top}, 5, want)
	}
	for top, want := range map[int]int{4: 0, 5: 1} {
		lends(t, s, lend.State{Over: []int{2, 3, 4, 5}, Top: top}, 5, want)
		lends(t, s, lend.State{Over: []int{6}, Top: top}, 6, want)
	}
	// Demand does not matter.
	lends(t, s, lend.State{Over: over, Busy: []int{5, 6}, Top: 2}, 5, 4)
	// The level of the leaf does not, either.
	lends(t, s, lend.State{Busy: []int{5}, Top: 0}, 5, 5)
	able(t, s, lend.State{Over: over, Busy: []int{5, 6, 7}, Top: 2}, 5, 6)
	able(t, s, lend.State{Over: over, Busy: []int{5, 6, 7}, Top: 3}, 5, 6, 7)
	able(t, s, lend.State{Over: over, Busy: []int{5, 6, 7}, Top: 1}, 6)
}

func TestFormal(t *testing.T) { // P27.1: rule 2
	s := compile(t, api.RuleFormal, chainOf()...)
	// Nobody of a lower level than 2 is unsatisfied.
	lends(t, s, lend.State{Over: []int{5}, Busy: []int{5}}, 5, 4)
	// 4 is unsatisfied itself: classes of a level of their own do not matter, nor do higher ones.
	lends(t, s, lend.State{Over: []int{5, 7}, Busy: []int{5, 7}}, 5, 4)
	// 7 lies below 4's level, and is not over its limit.
	lends(t, s, lend.State{Over: []int{5}, Busy: []int{5, 7}}, 5, 0)
	lends(t, s, lend.State{Over: []int{5}, Busy: []int{7}}, 5, 0)
	// A leaf far off counts as well.
	lends(t, s, lend.State{Over: []int{5}, Busy: []int{5, 6}}, 5, 0)
	// 7 borrows from 3 only while 4, which is below 3's level, is satisfied.
	lends(t, s, lend.State{Over: []int{7}, Busy: []int{7}}, 7, 3)
	lends(t, s, lend.State{Over: []int{7, 5}, Busy: []int{7, 5}}, 7, 0)
	lends(t, s, lend.State{Over: []int{7, 5, 4}, Busy: []int{7, 5}}, 7, 3)
	lends(t, s, lend.State{Over: []int{7, 5, 4, 3}, Busy: []int{7, 5}}, 7, 2)
	lends(t, s, lend.State{Over: []int{7, 5, 4, 3, 2}, Busy: []int{7, 5}}, 7, 1)
	lends(t, s, lend.State{Over: []int{7, 5, 4, 3, 2, 1}, Busy: []int{7, 5}}, 7, 0)
	// What is not busy wants nothing.
	lends(t, s, lend.State{Over: []int{7, 5, 3}, Busy: []int{7}}, 7, 2)
	lends(t, s, lend.State{Over: []int{7, 5, 3}, Busy: []int{7, 5}}, 7, 0)
	// The top level does not matter.
	lends(t, s, lend.State{Over: []int{5}, Busy: []int{5}, Top: -9}, 5, 4)
	able(t, s, lend.State{Over: []int{5}, Busy: []int{5, 7}}, 7)
	able(t, s, lend.State{Over: []int{5, 7}, Busy: []int{5, 7}}, 5)
	able(t, s, lend.State{Over: []int{5, 7, 4}, Busy: []int{5, 7}}, 5, 7)
}

func TestApart(t *testing.T) { // P27.1: rule 2 disregards classes that are Apart from the leaf
	l := []api.Class{of(1, 0), of(2, 1), isolated(3, 1), of(4, 3), of(5, 3), of(6, 2), of(7, 2)}
	s := compile(t, api.RuleFormal, l...)
	// 4 wants to send, but its demand is kept by 3.
	lends(t, s, lend.State{Over: []int{6}, Busy: []int{4, 6}}, 6, 2)
	lends(t, s, lend.State{Over: []int{6, 2}, Busy: []int{4, 6}}, 6, 1)
	// 7 has no such class above it.
	lends(t, s, lend.State{Over: []int{6}, Busy: []int{4, 6, 7}}, 6, 0)
	// Within 3 its demand counts.
	lends(t, s, lend.State{Over: []int{5}, Busy: []int{4, 5}}, 5, 0)
	lends(t, s, lend.State{Over: []int{5}, Busy: []int{5}}, 5, 3)
	// And what is outside counts within 3: only an isolated class's own demand is kept.
	lends(t, s, lend.State{Over: []int{5}, Busy: []int{5, 6}}, 5, 0)
	// 3 itself, at level 2 as 2 is, is Apart from 6, too: it keeps nobody from the root.
	lends(t, s, lend.State{Over: []int{6, 2, 4}, Busy: []int{4, 6}}, 6, 1)
	l[2] = of(3, 1)
	s = compile(t, api.RuleFormal, l...)
	lends(t, s, lend.State{Over: []int{6}, Busy: []int{4, 6}}, 6, 0)
	lends(t, s, lend.State{Over: []int{6, 2, 4}, Busy: []int{4, 6}}, 6, 0)
	// An isolated leaf is Apart from all others.
	s = compile(t, api.RuleFormal, of(1, 0), isolated(2, 1), of(3, 1))
	lends(t, s, lend.State{Over: []int{3}, Busy: []int{2, 3}}, 3, 1)
	able(t, s, lend.State{Over: []int{3}, Busy: []int{2, 3}}, 2, 3)
	able(t, s, lend.State{Over: []int{2}, Busy: []int{2, 3}}, 3)
}

func TestWanting(t *testing.T) { // P27.1: the unsatisfied classes
	s := compile(t, api.RuleTop, chainOf()...)
	wanting(t, s, lend.State{})
	wanting(t, s, lend.State{Over: []int{1, 5}})
	wanting(t, s, lend.State{Busy: []int{5}}, 1, 2, 3, 4, 5)
	wanting(t, s, lend.State{Busy: []int{6}}, 1, 6)
	wanting(t, s, lend.State{Busy: []int{7, 6}}, 1, 2, 3, 6, 7)
	wanting(t, s, lend.State{Busy: []int{7, 6, 5}, Over: []int{3, 7, 6}}, 1, 2, 4, 5)
	wanting(t, s, lend.State{Busy: []int{7, 6, 5}, Over: []int{7, 6, 5, 4, 3, 2, 1}})
	// Isolated classes want as others do.
	l := chainOf()
	l[2] = isolated(3, 2)
	wanting(t, compile(t, api.RuleFormal, l...), lend.State{Busy: []int{5}}, 1, 2, 3, 4, 5)
}

func TestIgnored(t *testing.T) { // P27.1, P27.2: what is no class or no leaf, and repetitions
	for _, rule := range rules {
		s := compile(t, rule, chainOf()...)
		noise := lend.State{Over: []int{0, 8, 9, 8, -1, math.MaxInt, 65536}, Busy: []int{1, 2, 3, 4, 0, 8, -1, 1, math.MinInt}, Top: 2}
		wanting(t, s, noise)
		able(t, s, noise)
		lends(t, s, noise, 5, 5)
		for _, leaf := range noise.Over {
			lends(t, s, noise, leaf, 0)
		}
		more := lend.State{Over: append([]int{5, 7, 5}, noise.Over...), Busy: append(slices.Clone(noise.Busy), 7, 5, 7, 6, 5), Top: 2}
		less := lend.State{Over: []int{5, 7}, Busy: []int{5, 6, 7}, Top: 2}
		if !slices.Equal(lend.Able(s, more), lend.Able(s, less)) || !slices.Equal(lend.Wanting(s, more), lend.Wanting(s, less)) {
			t.Error("repetitions matter:", lend.Able(s, more), lend.Wanting(s, more))
		}
		for id := range 9 {
			want, ok := lend.Lender(s, less, id)
			if got, found := lend.Lender(s, more, id); got != want || found != ok {
				t.Errorf("Lender of %d = %d, %v, not %d, %v", id, got, found, want, ok)
			}
		}
	}
}

func TestArguments(t *testing.T) { // P27.1, P27.2: the lists stay as they are, the spare capacity included
	over, busy := []int{7, 5, 7, 99}, []int{7, 6, 5, 99}
	x := lend.State{Over: over[:3], Busy: busy[:3], Top: 1}
	for _, rule := range rules {
		s := compile(t, rule, chainOf()...)
		first := lend.Able(s, x)
		lend.Lender(s, x, 5)
		clear(lend.Wanting(s, x))
		want := slices.Clone(first)
		clear(first)
		if !slices.Equal(lend.Able(s, x), want) || len(lend.Wanting(s, x)) == 0 {
			t.Error("answers are not new")
		}
	}
	if !slices.Equal(over, []int{7, 5, 7, 99}) || !slices.Equal(busy, []int{7, 6, 5, 99}) {
		t.Error("arguments changed:", over, busy)
	}
}

func TestNil(t *testing.T) { // P27.2
	x := lend.State{Over: []int{1}, Busy: []int{1, 2}, Top: 5}
	for _, id := range wild {
		if got, ok := lend.Lender(nil, x, id); got != 0 || ok {
			t.Error("Lender of a nil set:", got, ok)
		}
	}
	if len(lend.Able(nil, x)) != 0 || len(lend.Wanting(nil, x)) != 0 {
		t.Error("Able or Wanting of a nil set")
	}
}

// world is classes by their IDs, and a state of them, to be asked in the chapter's words.
type world struct {
	classes map[int]api.Class
	rule    int
	x       lend.State
}

func (w world) leaf(id int) bool {
	for _, c := range w.classes {
		if c.Parent == id {
			return false
		}
	}
	_, ok := w.classes[id]
	return ok
}

func (w world) under(id, above int) bool {
	for id != above && id != 0 {
		id = w.classes[id].Parent
	}
	return id == above && id != 0
}

func (w world) level(id int) int {
	level := 0
	for _, c := range w.classes {
		if c.Parent == id {
			level = max(level, w.level(c.ID))
		}
	}
	return level + 1
}

func (w world) over(id int) bool { return slices.Contains(w.x.Over, id) }

func (w world) unsatisfied(id int) bool {
	for _, leaf := range w.x.Busy {
		if w.leaf(leaf) && w.under(leaf, id) && !w.over(id) {
			return true
		}
	}
	return false
}

// apart reports whether the demand of a does not affect b.
func (w world) apart(a, b int) bool {
	for _, c := range w.classes {
		if c.Isolated && w.under(a, c.ID) && !w.under(b, c.ID) {
			return true
		}
	}
	return false
}

func (w world) permits(lender, leaf int) bool {
	switch w.rule {
	case 0:
		return true
	case 1:
		return w.level(lender) <= w.x.Top
	}
	for id := range w.classes {
		if w.level(id) < w.level(lender) && w.unsatisfied(id) && !w.apart(id, leaf) {
			return false
		}
	}
	return true
}

func (w world) lender(leaf int) int {
	if !w.leaf(leaf) {
		return 0
	}
	if !w.over(leaf) {
		return leaf
	}
	for id := leaf; !w.classes[id].Bounded && !w.classes[id].Isolated && w.classes[id].Parent != 0; {
		id = w.classes[id].Parent
		if !w.over(id) && w.permits(id, leaf) {
			return id
		}
	}
	return 0
}

// random returns a random world of up to n classes, and its set by each rule.
func random(t *testing.T, r *rand.Rand, n int) (world, []*config.Set) {
	w := world{classes: map[int]api.Class{}}
	ids := r.Perm(15)[:1+r.Intn(n)]
	var l []api.Class
	for i, id := range ids {
		c := of(id+1, 0)
		for i > 0 && (c.Parent == 0 || depth(l, c.Parent) > 2) {
			c.Parent = ids[r.Intn(i)] + 1
		}
		c.Bounded, c.Isolated = r.Intn(6) == 0, r.Intn(4) == 0
		l = append(l, c)
		w.classes[c.ID] = c
	}
	var sets []*config.Set
	for _, rule := range rules {
		sets = append(sets, compile(t, rule, l...))
	}
	return w, sets
}

// some returns a random list of numbers up to 16, with repetitions.
func some(r *rand.Rand) []int {
	l := make([]int, r.Intn(16))
	for i := range l {
		l[i] = r.Intn(17)
	}
	return l
}

func TestSecondImplementation(t *testing.T) { // P27.1, P27.2, P27.3
	r := rand.New(rand.NewSource(27))
	borrowed, refused := [3]int{}, [3]int{}
	for range 300 {
		w, sets := random(t, r, 12)
		for range 8 {
			w.x = lend.State{Over: some(r), Busy: some(r), Top: r.Intn(6) - 1}
			for rule, s := range sets {
				w.rule = rule
				var ables, wants []int
				for id := range 18 {
					want := w.lender(id)
					lends(t, s, w.x, id, want)
					if want != 0 && want != id {
						borrowed[rule]++
					}
					if want == 0 && w.leaf(id) {
						refused[rule]++
					}
					if want != 0 && slices.Contains(w.x.Busy, id) {
						ables = append(ables, id)
					}
					if w.unsatisfied(id) {
						wants = append(wants, id)
					}
				}
				able(t, s, w.x, ables...)
				wanting(t, s, w.x, wants...)
			}
			if t.Failed() {
				t.Fatalf("classes %+v", w.classes)
			}
		}
	}
	for rule := range rules {
		if borrowed[rule] < 500 || refused[rule] < 500 {
			t.Errorf("rule %d: borrowed %d times, refused %d times", rule, borrowed[rule], refused[rule])
		}
	}
}

func TestDerived(t *testing.T) { // P27.3
	r := rand.New(rand.NewSource(273))
	for range 500 {
		_, sets := random(t, r, 15)
		x := lend.State{Over: some(r), Busy: some(r), Top: r.Intn(6)}
		for _, s := range sets {
			within, able := false, len(lend.Able(s, x)) > 0
			for _, leaf := range s.Leaves() {
				got, ok := lend.Lender(s, x, leaf)
				if !slices.Contains(x.Over, leaf) {
					within = within || slices.Contains(x.Busy, leaf)
					if got != leaf || !ok {
						t.Fatalf("leaf %d, not over its limit, may not send: %+v", leaf, x)
					}
				}
				if _, always := lend.Lender(sets[0], x, leaf); ok && !always {
					t.Fatalf("leaf %d may send by rule %d, not by rule 0: %+v", leaf, s.Conf().Rule, x)
				}
			}
			if within && !able {
				t.Fatalf("nobody is able: %+v", x)
			}
		}
	}
}

func TestLargest(t *testing.T) { // P27.1, P27.2: 64 classes
	l := []api.Class{of(1, 0)}
	for id := 2; id <= 64; id++ {
		l = append(l, of(id, 1))
	}
	var leaves []int
	for id := 2; id <= 64; id++ {
		leaves = append(leaves, id)
	}
	for _, rule := range rules {
		s := compile(t, rule, l...)
		able(t, s, lend.State{Busy: leaves, Over: leaves, Top: 2}, leaves...)
		able(t, s, lend.State{Busy: leaves, Over: append([]int{1}, leaves...), Top: 2})
		able(t, s, lend.State{Busy: leaves, Top: 0}, leaves...)
	}
	able(t, compile(t, api.RuleFormal, l...), lend.State{Busy: leaves, Over: leaves[1:], Top: 2}, 2)
	able(t, compile(t, api.RuleTop, l...), lend.State{Busy: leaves, Over: leaves[1:], Top: 1}, 2)
}

func TestAnything(t *testing.T) { // P6
	for _, rule := range rules {
		for _, s := range []*config.Set{nil, compile(t, rule, chainOf()...), compile(t, rule, of(65535, 0))} {
			for _, n := range wild {
				for _, x := range []lend.State{{Top: n}, {Over: wild, Busy: wild, Top: n}, {Over: []int{n}, Busy: wild}, {Over: wild, Busy: []int{n}}} {
					lend.Able(s, x)
					lend.Wanting(s, x)
					for _, leaf := range wild {
						lend.Lender(s, x, leaf)
					}
				}
			}
		}
	}
}
