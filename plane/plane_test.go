package plane_test

import (
	"math"
	"math/rand"
	"slices"
	"strings"
	"testing"

	"flashlock/api"
	"flashlock/config"
	"flashlock/flow"
	"flashlock/idle"
	"flashlock/plane"
	"flashlock/ports"
	"flashlock/queues"
	"flashlock/sched"
)

var wild = []int{math.MinInt, math.MinInt32, -1, 0, 1, 2, 3, 4, 9, 2048, 2049, 4096, 4097, 65536, 1 << 22, 1<<22 + 1, 1 << 40, 1<<40 + 1, 1 << 60, math.MaxInt}

// of returns a class that is over its limit for long after it sent.
func of(id, parent int, share float64) api.Class {
	return api.Class{ID: id, Parent: parent, Share: share, Quantum: 100, Limit: 10, Weight: 1, MinIdle: -1 << 40}
}

// idler returns a class that is never over its limit.
func idler(id, parent int, share float64) api.Class {
	c := of(id, parent, share)
	c.MinIdle = 0
	return c
}

// to returns the filter for packets to that port.
func to(port, leaf int) api.Filter {
	return api.Filter{ID: port, Prio: port, Proto: ports.UDP, SrcPorts: api.Span{High: 65535}, DstPorts: api.Span{Low: port, High: port}, Leaf: leaf}
}

func conf(rule, leaf int, l ...api.Class) api.Config {
	return api.Config{Tpb: 10, Rule: rule, Default: leaf, Classes: l}
}

// family is the root 1 with 2 and 3 below it, and 4 and 5 below 3; packets to the port of a leaf's ID are for that leaf.
// After leaf 4 sent 104 bytes at time 0, 1 is over its limit until 1560, 3 until 3120, and 4 until 6240.
func family(rule int) api.Config {
	c := conf(rule, 2, of(1, 0, 1), of(2, 1, 0.25), of(3, 1, 0.5), of(4, 3, 0.25), of(5, 3, 0.125))
	c.Filters = []api.Filter{to(4, 4), to(5, 5)}
	return c
}

// lazy is family without limits of idleness.
func lazy(rule int) api.Config {
	c := family(rule)
	for i := range c.Classes {
		c.Classes[i].MinIdle = 0
	}
	return c
}

func start(t *testing.T, c api.Config, slots, room int) *plane.Plane {
	t.Helper()
	p, e := plane.New(c, slots, room)
	if e != api.OK || p == nil {
		t.Fatal("New:", e)
	}
	return p
}

func compile(t *testing.T, c api.Config) *config.Set {
	t.Helper()
	s, e := config.Compile(c)
	if e != api.OK {
		t.Fatal("Compile:", e)
	}
	return s
}

func key(port int) api.Key {
	return api.Key{Version: 4, Src: api.Addr{Lo: 1}, Dst: api.Addr{Lo: 2}, Proto: ports.UDP, SrcPort: 7, DstPort: port}
}

// raw returns a packet to that port.
func raw(port, size int) string { return flow.Make(key(port), size) }

func packet(t *testing.T, p *plane.Plane, s string, want api.Out) {
	t.Helper()
	want.Kind, want.Now = api.EvPacket, p.Now()
	if got := p.Packet(s); got != want {
		t.Fatalf("Packet(%q) = %+v, not %+v", s, got, want)
	}
}

// comes has packets of 104 bytes arrive at those leaves, one after the other.
func comes(t *testing.T, p *plane.Plane, leaves ...int) {
	t.Helper()
	for _, leaf := range leaves {
		if out := p.Packet(raw(leaf, 104)); out.Leaf != leaf || out.Reason != api.Kept {
			t.Fatalf("Packet for %d: %+v", leaf, out)
		}
	}
}

func sends(t *testing.T, p *plane.Plane, seq, leaf, lender int) {
	t.Helper()
	want := api.Out{Kind: api.EvReady, Seq: seq, Leaf: leaf, Lender: lender, Now: p.Now()}
	if got := p.Ready(); got != want {
		t.Fatalf("Ready() = %+v, not %+v", got, want)
	}
}

func sendsNone(t *testing.T, p *plane.Plane, wake int) {
	t.Helper()
	before := look(p)
	want := api.Out{Kind: api.EvReady, Wake: wake, Now: p.Now()}
	if got := p.Ready(); got != want {
		t.Fatalf("Ready() = %+v, not %+v", got, want)
	}
	before.same(t, p)
}

func ticks(t *testing.T, p *plane.Plane, n, now int) {
	t.Helper()
	if got := p.Tick(n); got != (api.Out{Kind: api.EvTick, Now: now}) || p.Now() != now {
		t.Fatalf("Tick(%d) = %+v; Now() = %d, not %d", n, got, p.Now(), now)
	}
}

func hasStat(t *testing.T, p *plane.Plane, id int, want api.Stat) {
	t.Helper()
	if got, ok := p.Stat(id); got != want || !ok {
		t.Errorf("Stat(%d) = %+v, %v, not %+v", id, got, ok, want)
	}
}

func hasNoStat(t *testing.T, p *plane.Plane, ids ...int) {
	t.Helper()
	for _, id := range ids {
		if got, ok := p.Stat(id); got != (api.Stat{}) || ok {
			t.Errorf("Stat(%d) = %+v, %v", id, got, ok)
		}
		if got, ok := p.State(id); got != (idle.State{}) || ok {
			t.Errorf("State(%d) = %+v, %v", id, got, ok)
		}
	}
}

func hasTotal(t *testing.T, p *plane.Plane, packets, bytes int) {
	t.Helper()
	if n, m := p.Total(); n != packets || m != bytes {
		t.Errorf("Total() = %d, %d, not %d, %d", n, m, packets, bytes)
	}
}

func hasRows(t *testing.T, p *plane.Plane, want ...queues.Row) {
	t.Helper()
	if got := p.Rows(); !slices.Equal(got, want) {
		t.Errorf("Rows() = %+v, not %+v", got, want)
	}
}

func row(leaf, seq, port, size int) queues.Row {
	return queues.Row{Leaf: leaf, Packet: api.Packet{Seq: seq, Size: size, Key: key(port)}}
}

// view is what a plane of classes up to 13 shows without an event.
type view struct {
	now    int
	rows   []queues.Row
	total  [2]int
	able   []int
	stats  [14]api.Stat
	states [14]idle.State
	known  [14]bool
}

func look(p *plane.Plane) view {
	v := view{now: p.Now(), rows: p.Rows(), able: p.Able()}
	v.total[0], v.total[1] = p.Total()
	for id := range v.stats {
		v.stats[id], v.known[id] = p.Stat(id)
		v.states[id], _ = p.State(id)
	}
	return v
}

// same fails unless the plane shows the same still.
func (v view) same(t *testing.T, p *plane.Plane) {
	t.Helper()
	w := look(p)
	if !slices.Equal(v.rows, w.rows) || !slices.Equal(v.able, w.able) {
		t.Fatalf("%+v, not %+v", w, v)
	}
	if v.now != w.now || v.total != w.total || v.stats != w.stats || v.states != w.states || v.known != w.known {
		t.Fatalf("%+v, not %+v", w, v)
	}
}

// rest returns the results of link-ready events up to the end, with the ticks between them.
func rest(p *plane.Plane) []api.Out {
	p = p.Copy()
	var l []api.Out
	for range 200 {
		out := p.Ready()
		l = append(l, out)
		switch {
		case out.Wake > 0:
			l = append(l, p.Tick(out.Wake-out.Now))
		case out.Seq == 0:
			return l
		}
	}
	return l
}

func TestExample(t *testing.T) { // P36.1, P36.2
	p := start(t, conf(0, 1, idler(1, 0, 1)), 10, 100)
	packet(t, p, "x", api.Out{Seq: 1, Leaf: 1, Reason: api.Kept})
	sends(t, p, 1, 1, 1)
	sendsNone(t, p, 0)
}

func TestExamplesOfTheWhole(t *testing.T) { // P36.2
	p := start(t, family(0), 10, 1000)
	packet(t, p, strings.Repeat("\x00", 40), api.Out{Seq: 1, Leaf: 2})
	hasRows(t, p, queues.Row{Leaf: 2, Packet: api.Packet{Seq: 1, Size: 40}})

	one := api.Config{Tpb: 1, Default: 1, Classes: []api.Class{{ID: 1, Share: 1, Quantum: 1, Limit: 9, Weight: 1, MinIdle: -100}}}
	p = start(t, one, 10, 1000)
	comes := strings.Repeat("x", 8)
	packet(t, p, comes, api.Out{Seq: 1, Leaf: 1})
	packet(t, p, comes, api.Out{Seq: 2, Leaf: 1})
	sends(t, p, 1, 1, 1)
	sendsNone(t, p, 12)
	ticks(t, p, 11, 11)
	sendsNone(t, p, 12)
	ticks(t, p, 1, 12)
	sends(t, p, 2, 1, 1)

	l := []api.Class{idler(1, 0, 1), of(2, 1, 1)}
	p = start(t, conf(0, 2, l...), 10, 1000)
	packet(t, p, comes, api.Out{Seq: 1, Leaf: 2})
	packet(t, p, comes, api.Out{Seq: 2, Leaf: 2})
	sends(t, p, 1, 2, 2)
	sends(t, p, 2, 2, 1)
}

func TestNew(t *testing.T) { // P36.1
	for _, slots := range []int{1, 2, 4095, 4096} {
		for _, room := range []int{0, 1, 1<<22 - 1, 1 << 22} {
			p := start(t, family(1), slots, room)
			if p.Now() != 0 || len(p.Rows()) != 0 || len(p.Able()) != 0 {
				t.Error("a new plane is not empty, or not at time 0")
			}
			hasTotal(t, p, 0, 0)
			sendsNone(t, p, 0)
			for _, c := range family(1).Classes {
				hasStat(t, p, c.ID, api.Stat{})
				if got, ok := p.State(c.ID); got != idle.New(c, 0) || !ok {
					t.Errorf("State(%d) = %+v, %v", c.ID, got, ok)
				}
			}
			if !config.Same(p.Set().Conf(), family(1)) {
				t.Error("Set is of another configuration")
			}
		}
	}
}

func TestNewRange(t *testing.T) { // P36.1
	fails := func(c api.Config, slots, room int, want api.Errno) {
		t.Helper()
		if p, e := plane.New(c, slots, room); p != nil || e != want {
			t.Errorf("New(slots %d, room %d) = %v, %v, not %v", slots, room, p, e, want)
		}
	}
	for _, slots := range []int{math.MinInt, -1, 0, 4097, math.MaxInt} {
		fails(family(0), slots, 100, api.ErrRange)
	}
	for _, room := range []int{math.MinInt, -1, 1<<22 + 1, math.MaxInt} {
		fails(family(0), 5, room, api.ErrRange)
	}
	// The configuration comes first.
	bad := []api.Config{{}, {Tpb: 1}, family(3), family(-1), conf(0, 1), conf(0, 3, of(1, 0, 1), of(2, 1, 1), of(3, 1, 0.5)), conf(0, 1, of(1, 0, 1), of(2, 1, 1)), conf(0, 1, of(1, 0, math.NaN()))}
	noLeaf := family(0)
	noLeaf.Filters = []api.Filter{to(4, 3)}
	twice := family(0)
	twice.Filters = []api.Filter{to(4, 4), to(4, 5)}
	seen := map[api.Errno]int{}
	for _, c := range append(bad, noLeaf, twice) {
		e := config.Check(c)
		seen[e]++
		for _, size := range [][2]int{{5, 100}, {0, 100}, {4097, 1 << 23}, {1, -1}} {
			fails(c, size[0], size[1], e)
		}
	}
	if len(seen) < 6 || seen[api.OK] > 0 {
		t.Error("these configurations have few errors:", seen)
	}
}

func TestNewKeepsNothing(t *testing.T) { // P36.1: the argument is neither changed nor kept, its spare capacity included
	c := family(0)
	c.Classes = append(slices.Clone(c.Classes), of(9, 1, 1), of(9, 1, 1))[:5]
	c.Filters = append(slices.Clone(c.Filters), to(9, 9))[:2]
	slices.Reverse(c.Classes)
	classes, filters := slices.Clone(c.Classes[:7]), slices.Clone(c.Filters[:3])
	p := start(t, c, 9, 999)
	comes(t, p, 4)
	sends(t, p, 1, 4, 4)
	if !slices.Equal(c.Classes[:7], classes) || !slices.Equal(c.Filters[:3], filters) {
		t.Error("the configuration is changed")
	}
	clear(c.Classes)
	clear(c.Filters)
	if !config.Same(p.Set().Conf(), family(0)) {
		t.Error("the configuration is kept")
	}
	comes(t, p, 4)
}

func TestPacketLeafAndKey(t *testing.T) { // P36.2
	p := start(t, family(0), 20, 9999)
	packet(t, p, raw(4, 50), api.Out{Seq: 1, Leaf: 4})
	packet(t, p, raw(6, 51), api.Out{Seq: 2, Leaf: 2})
	packet(t, p, raw(5, 28), api.Out{Seq: 3, Leaf: 5})
	packet(t, p, raw(4, 2048), api.Out{Seq: 4, Leaf: 4})
	packet(t, p, raw(4, 50)[:49], api.Out{Seq: 5, Leaf: 2}) // malformed: its end is missing
	packet(t, p, "\xff", api.Out{Seq: 6, Leaf: 2})
	malformed := func(seq, size int) queues.Row {
		return queues.Row{Leaf: 2, Packet: api.Packet{Seq: seq, Size: size}}
	}
	hasRows(t, p, row(4, 1, 4, 50), row(2, 2, 6, 51), row(5, 3, 5, 28), row(4, 4, 4, 2048), malformed(5, 49), malformed(6, 1))
	hasTotal(t, p, 6, 50+51+28+2048+49+1)
	// Bytes after those of the header's size belong to the packet's size, too.
	packet(t, p, raw(4, 50)+"tail", api.Out{Seq: 7, Leaf: 4})
	if l := p.Rows(); l[6] != row(4, 7, 4, 54) {
		t.Errorf("%+v", l[6])
	}
}

func TestPacketLost(t *testing.T) { // P36.2: for each reason, with its number
	c := family(0)
	c.Classes[1].Limit, c.Classes[3].Limit = 2, 3
	p := start(t, c, 4, 300)
	packet(t, p, "", api.Out{Seq: 1, Leaf: 2, Reason: api.BadSize})
	packet(t, p, strings.Repeat("x", 2049), api.Out{Seq: 2, Leaf: 2, Reason: api.BadSize})
	packet(t, p, strings.Repeat("x", 2048), api.Out{Seq: 3, Leaf: 2, Reason: api.NoRoom})
	packet(t, p, raw(4, 301), api.Out{Seq: 4, Leaf: 4, Reason: api.NoRoom})
	packet(t, p, raw(9, 200), api.Out{Seq: 5, Leaf: 2})
	packet(t, p, raw(4, 101), api.Out{Seq: 6, Leaf: 4, Reason: api.NoRoom})
	packet(t, p, "y", api.Out{Seq: 7, Leaf: 2})
	packet(t, p, "y", api.Out{Seq: 8, Leaf: 2, Reason: api.QueueFull})
	packet(t, p, raw(4, 40), api.Out{Seq: 9, Leaf: 4})
	packet(t, p, raw(4, 40), api.Out{Seq: 10, Leaf: 4})
	packet(t, p, raw(4, 40), api.Out{Seq: 11, Leaf: 4, Reason: api.NoSlot})
	packet(t, p, raw(5, 28), api.Out{Seq: 12, Leaf: 5, Reason: api.NoSlot})
	packet(t, p, "", api.Out{Seq: 13, Leaf: 2, Reason: api.BadSize})
	hasRows(t, p, row(2, 5, 9, 200), queues.Row{Leaf: 2, Packet: api.Packet{Seq: 7, Size: 1}}, row(4, 9, 4, 40), row(4, 10, 4, 40))
	hasStat(t, p, 2, api.Stat{Got: 2, GotBytes: 201, Lost: 5, Waiting: 2})
	hasStat(t, p, 4, api.Stat{Got: 2, GotBytes: 80, Lost: 3, Waiting: 2})
	hasStat(t, p, 5, api.Stat{Lost: 1})
	hasStat(t, p, 1, api.Stat{})
	sends(t, p, 5, 2, 2)
	packet(t, p, "z", api.Out{Seq: 14, Leaf: 2})
	hasStat(t, p, 2, api.Stat{Got: 3, GotBytes: 202, Sent: 1, SentBytes: 200, Lost: 5, Waiting: 2})
}

func TestLostLeavesNoTrace(t *testing.T) { // P36.2: a packet that is lost comes to no leaf
	// By rule 1 an arrival at a leaf within its limit would lower the top level, and others could not borrow.
	c := family(1)
	p := start(t, c, 1, 104)
	comes(t, p, 4)
	sends(t, p, 1, 4, 4)
	ticks(t, p, 3120, 3120) // 4 alone is over its limit
	comes(t, p, 4)          // top level 2
	packet(t, p, "x", api.Out{Seq: 3, Leaf: 2, Reason: api.NoSlot})
	if !slices.Equal(p.Able(), []int{4}) {
		t.Error("Able() =", p.Able())
	}
	sends(t, p, 2, 4, 3)
	// Nor does it join the turns: 4 comes before 2 here.
	p = start(t, lazy(0), 1, 200)
	comes(t, p, 5)
	packet(t, p, "x", api.Out{Seq: 2, Leaf: 2, Reason: api.NoSlot})
	sends(t, p, 1, 5, 5)
	q := start(t, lazy(0), 2, 208)
	packet(t, q, raw(2, 209), api.Out{Seq: 1, Leaf: 2, Reason: api.NoRoom})
	comes(t, q, 4, 2)
	sends(t, q, 2, 4, 4)
}

func TestComeAtThePresentTime(t *testing.T) { // P36.2
	p := start(t, family(1), 9, 9999)
	comes(t, p, 4, 4)
	sends(t, p, 1, 4, 4) // top level 9 again, since 4 is over its limit
	sendsNone(t, p, 6240)
	ticks(t, p, 1560, 1560) // 3 and 4 are over their limits
	sends(t, p.Copy(), 2, 4, 1)
	comes(t, p, 4) // its lender is 1: top level 3
	sends(t, p.Copy(), 2, 4, 1)
	ticks(t, p, 1560, 3120)
	comes(t, p, 4) // its lender is 3: top level 2
	sends(t, p.Copy(), 2, 4, 3)
	comes(t, p, 2) // top level 1: 4 does not borrow any more
	if !slices.Equal(p.Able(), []int{2}) {
		t.Error("Able() =", p.Able())
	}
	sends(t, p, 5, 2, 2)
}

func TestReadyOrder(t *testing.T) { // P36.2
	p := start(t, lazy(0), 9, 9999)
	comes(t, p, 5, 4, 5, 2, 4)
	// A credit of 100 does not suffice for 104 bytes and another 104.
	sends(t, p, 1, 5, 5)
	sends(t, p, 2, 4, 4)
	sends(t, p, 4, 2, 2)
	sends(t, p, 3, 5, 5)
	comes(t, p, 2) // it joins again, behind 4
	sends(t, p, 5, 4, 4)
	sends(t, p, 6, 2, 2)
	sendsNone(t, p, 0)
	hasStat(t, p, 2, api.Stat{Got: 2, GotBytes: 208, Sent: 2, SentBytes: 208})
	hasStat(t, p, 3, api.Stat{})
	hasStat(t, p, 4, api.Stat{Got: 2, GotBytes: 208, Sent: 2, SentBytes: 208})
	hasStat(t, p, 5, api.Stat{Got: 2, GotBytes: 208, Sent: 2, SentBytes: 208})
}

func TestReadyLeavesTurns(t *testing.T) { // P36.2: a leaf without packets leaves its turns, and its debt
	p := start(t, lazy(0), 9, 9999)
	packet(t, p, raw(4, 1000), api.Out{Seq: 1, Leaf: 4})
	sends(t, p, 1, 4, 4)
	comes(t, p, 4, 5)
	sends(t, p, 2, 4, 4) // though it has sent ten times its quantum
	sends(t, p, 3, 5, 5)
	// With another packet waiting the debt remains.
	packet(t, p, raw(4, 1000), api.Out{Seq: 4, Leaf: 4})
	comes(t, p, 4)
	sends(t, p, 4, 4, 4)
	comes(t, p, 5, 5, 5)
	sends(t, p, 6, 5, 5)
	sends(t, p, 7, 5, 5)
	sends(t, p, 8, 5, 5)
	sends(t, p, 5, 4, 4)
}

func TestReadyTopLevel(t *testing.T) { // P36.2: whether the queue is empty tells the top level
	p := start(t, family(1), 9, 9999)
	comes(t, p, 4, 4)
	sends(t, p, 1, 4, 4)
	ticks(t, p, 3120, 3120)
	comes(t, p, 2, 2) // top level 1
	if !slices.Equal(p.Able(), []int{2}) {
		t.Error("Able() =", p.Able())
	}
	sends(t, p, 3, 2, 2) // now 2 is over its limit: top level 9
	sends(t, p, 2, 4, 3)

	c := family(1)
	c.Classes[1] = idler(2, 1, 0.25)
	p = start(t, c, 9, 9999)
	comes(t, p, 4, 4)
	sends(t, p, 1, 4, 4)
	ticks(t, p, 3120, 3120)
	packet(t, p, "a", api.Out{Seq: 3, Leaf: 2})
	packet(t, p, "b", api.Out{Seq: 4, Leaf: 2})
	sends(t, p, 3, 2, 2) // it has another packet: top level 1 still
	if !slices.Equal(p.Able(), []int{2}) {
		t.Error("Able() =", p.Able())
	}
	sends(t, p, 4, 2, 2) // the last one
	sends(t, p, 2, 4, 3)
}

func TestReadyLendersLevel(t *testing.T) { // P36.2: it is the lender whose level and limit tell the top level
	c := conf(1, 2, idler(1, 0, 1), of(2, 1, 0.25), idler(3, 1, 0.5), of(4, 3, 0.25))
	c.Filters = []api.Filter{to(4, 4)}
	p := start(t, c, 9, 9999)
	able := func(want ...int) {
		t.Helper()
		if got := p.Able(); !slices.Equal(got, want) {
			t.Errorf("Able() = %v, not %v", got, want)
		}
	}
	comes(t, p, 2)
	sends(t, p, 1, 2, 2)
	comes(t, p, 4)
	sends(t, p, 2, 4, 4)
	comes(t, p, 2) // its lender is 1: top level 3
	able(2)
	comes(t, p, 4, 4) // theirs is 3: top level 2
	able(4)
	sends(t, p, 4, 4, 3) // 3 is not over its limit, and 4 has another packet
	able(4)
	sends(t, p, 5, 4, 3)
	able(2)
	sends(t, p, 3, 2, 1)
}

func TestReadyLender(t *testing.T) { // P36.2: gauge and lender
	p := start(t, family(0), 9, 9999)
	comes(t, p, 4, 4, 4, 4, 2)
	sends(t, p, 1, 4, 4)
	sends(t, p, 5, 2, 2) // all but 5 are over their limits
	before := look(p)
	if before.states[1].Until < 1560 || before.states[3].Until != 3120 || before.states[4].Until != 6240 {
		t.Errorf("%+v", before.states)
	}
	sendsNone(t, p, 6240)
	ticks(t, p, 3120, 3120)
	sends(t, p, 2, 4, 3)
	sends(t, p, 3, 4, 3)
	wake := look(p).states[4].Until
	if wake <= 6240 {
		t.Error("4 sent, and is over its limit until", wake)
	}
	sendsNone(t, p, wake)
}

func TestReadyNone(t *testing.T) { // P36.2: the earliest Wake
	c := family(0)
	for i := range c.Classes {
		c.Classes[i].Bounded = true
	}
	p := start(t, c, 20, 9999)
	packet(t, p, raw(4, 96), api.Out{Seq: 1, Leaf: 4})
	comes(t, p, 4, 4, 2, 2)
	packet(t, p, raw(5, 28), api.Out{Seq: 6, Leaf: 5})
	sends(t, p, 1, 4, 4) // until 3840 and half of it
	sends(t, p, 4, 2, 2) // until 4160 and half of it
	sends(t, p, 6, 5, 5) // it has no packets now, and is not waited for
	if until := look(p).states[5].Until; until < 1 || until >= 5760 {
		t.Error("5 is over its limit until", until)
	}
	sendsNone(t, p, 5760)
	ticks(t, p, 5759, 5759)
	sendsNone(t, p, 5760)
	ticks(t, p, 1, 5760)
	sends(t, p, 2, 4, 4)
	sendsNone(t, p, 6240)
	ticks(t, p, 480, 6240)
	sends(t, p, 5, 2, 2)
	wake := look(p).states[4].Until
	sendsNone(t, p, wake)
	ticks(t, p, wake-6240, wake)
	sends(t, p, 3, 4, 4)
	sendsNone(t, p, 0)
}

func TestTick(t *testing.T) { // P36.2
	p := start(t, family(0), 9, 9999)
	comes(t, p, 4)
	ticks(t, p, 0, 0)
	ticks(t, p, 1, 1)
	ticks(t, p, 5, 6)
	for _, n := range []int{-1, math.MinInt, 1<<40 + 1, math.MaxInt} {
		before := look(p)
		ticks(t, p, n, 6)
		before.same(t, p)
	}
	ticks(t, p, 1<<40-6, 1<<40)
	now := 1 << 40
	for range 1<<20 - 1 {
		now += 1 << 40
		if p.Tick(1<<40).Now != now {
			t.Fatal("Tick at", now)
		}
	}
	ticks(t, p, 1, 1<<60)
	ticks(t, p, 1<<40, 1<<60)
	sends(t, p, 1, 4, 4)
	comes(t, p, 4)
	sends(t, p, 2, 4, 4) // Until is Most, too
}

func TestStatAndState(t *testing.T) { // P36.1
	p := start(t, family(0), 9, 9999)
	comes(t, p, 4, 4, 5)
	ticks(t, p, 7, 7)
	sends(t, p, 1, 4, 4)
	hasStat(t, p, 4, api.Stat{Got: 2, GotBytes: 208, Sent: 1, SentBytes: 104, Waiting: 1})
	hasStat(t, p, 5, api.Stat{Got: 1, GotBytes: 104, Waiting: 1})
	hasStat(t, p, 2, api.Stat{})
	hasStat(t, p, 3, api.Stat{})
	hasStat(t, p, 1, api.Stat{})
	hasNoStat(t, p, 0, 6, 7, -1, 65536, math.MinInt, math.MaxInt)
	s := sched.New(p.Set(), 0)
	s.Gone(4, 4, 104, 7, false)
	for id := 1; id <= 5; id++ {
		want, _ := s.State(id)
		if got, ok := p.State(id); got != want || !ok {
			t.Errorf("State(%d) = %+v, %v, not %+v", id, got, ok, want)
		}
	}
}

func TestAble(t *testing.T) { // P36.1
	p := start(t, family(2), 9, 9999)
	hasAble := func(want ...int) {
		t.Helper()
		if got := p.Able(); !slices.Equal(got, want) {
			t.Errorf("Able() = %v, not %v", got, want)
		}
	}
	hasAble()
	comes(t, p, 5, 4, 4)
	hasAble(4, 5)
	sends(t, p, 1, 5, 5)
	hasAble(4)
	sends(t, p, 2, 4, 4)
	hasAble()
	until := look(p).states[3].Until
	ticks(t, p, until-1, until-1)
	hasAble(4) // the root is not over its limit
	ticks(t, p, 1, until)
	hasAble(4)
	comes(t, p, 2)
	hasAble(2) // 2 wants to send itself
}

func TestRefitErrors(t *testing.T) { // P36.3: those of Fill
	c := family(0)
	c.Classes[3].Limit = 2
	p := start(t, family(0), 3, 300)
	comes(t, p, 2)
	ticks(t, p, 5, 5)
	before, s := look(p), compile(t, c)
	fails := func(t1 *config.Set, want api.Errno, l ...queues.Row) {
		t.Helper()
		if q, e := p.Refit(t1, l); q != nil || e != want {
			t.Errorf("Refit(%v) = %v, %v, not %v", l, q, e, want)
		}
		before.same(t, p)
	}
	fails(nil, api.ErrArg)
	fails(nil, api.ErrArg, row(9, 1, 4, 9))
	for _, leaf := range []int{0, 1, 3, 6, -1, math.MaxInt} {
		fails(s, api.ErrLeaf, row(leaf, 1, 4, 9))
		fails(s, api.ErrLeaf, row(4, 1, 4, 9), row(leaf, 2, 4, 0))
	}
	fails(s, api.ErrLimit, row(4, 1, 4, 9), row(4, 2, 4, 9), row(4, 3, 4, 9))
	fails(s, api.ErrFull, row(4, 1, 4, 0))
	fails(s, api.ErrFull, row(4, 1, 4, 2049))
	fails(s, api.ErrFull, row(4, 1, 4, 300), row(5, 2, 4, 1))
	fails(s, api.ErrFull, row(4, 1, 4, 9), row(5, 2, 4, 9), row(2, 3, 4, 9), row(2, 4, 4, 9))
	// The first row that does not fit tells.
	fails(s, api.ErrLeaf, row(9, 1, 4, 9), row(4, 2, 4, 0))
	fails(s, api.ErrFull, row(4, 2, 4, 0), row(9, 1, 4, 9))
	fails(s, api.ErrLimit, row(4, 1, 4, 9), row(4, 2, 4, 9), row(4, 3, 4, 9), row(9, 4, 4, 0))
	var none *plane.Plane
	for _, t1 := range []*config.Set{nil, s} {
		if q, e := none.Refit(t1, []queues.Row{row(9, 1, 4, 0)}); q != nil || e != api.ErrArg {
			t.Error("Refit of nil:", e)
		}
	}
}

func refit(t *testing.T, p *plane.Plane, s *config.Set, l ...queues.Row) *plane.Plane {
	t.Helper()
	before := look(p)
	q, e := p.Refit(s, l)
	if e != api.OK || q == nil || q == p {
		t.Fatal("Refit:", e)
	}
	before.same(t, p)
	if q.Set() != s || q.Now() != before.now {
		t.Fatal("another set or time")
	}
	return q
}

func TestRefit(t *testing.T) { // P36.3
	p := start(t, family(0), 9, 9999)
	comes(t, p, 4, 5, 4)
	packet(t, p, "", api.Out{Seq: 4, Leaf: 2, Reason: api.BadSize})
	ticks(t, p, 12, 12)
	sends(t, p, 1, 4, 4)
	// Another one in which 4 has a class below it, 5 goes, and 6 and 7 come.
	c := conf(1, 2, of(1, 0, 1), of(2, 1, 0.25), of(3, 1, 0.5), of(4, 3, 0.25), of(6, 4, 0.125), of(7, 3, 0.125))
	s := compile(t, c)
	q := refit(t, p, s, row(6, 3, 4, 104), row(7, 2, 5, 104))
	hasRows(t, q, row(7, 2, 5, 104), row(6, 3, 4, 104))
	hasTotal(t, q, 2, 208)
	hasStat(t, q, 1, api.Stat{})
	hasStat(t, q, 2, api.Stat{Lost: 1})
	hasStat(t, q, 4, api.Stat{Got: 2, GotBytes: 208, Sent: 1, SentBytes: 104})
	hasStat(t, q, 6, api.Stat{Waiting: 1})
	hasStat(t, q, 7, api.Stat{Waiting: 1})
	hasNoStat(t, q, 5, 8)
	for _, c := range c.Classes {
		want, had := p.State(c.ID)
		if !had {
			want = idle.New(c, 12)
		}
		if got, ok := q.State(c.ID); got != want || !ok {
			t.Errorf("State(%d) = %+v, %v, not %+v", c.ID, got, ok, want)
		}
	}
	if !slices.Equal(q.Able(), []int{6, 7}) {
		t.Error("Able() =", q.Able())
	}
	// The numbers go on, the rows and the size of the buffer count.
	packet(t, q, "x", api.Out{Seq: 5, Leaf: 2})
	packet(t, p, "x", api.Out{Seq: 5, Leaf: 2})
	sends(t, q, 3, 6, 6)
	hasStat(t, q, 6, api.Stat{Sent: 1, SentBytes: 104})
	for seq := 6; seq <= 12; seq++ {
		packet(t, q, "x", api.Out{Seq: seq, Leaf: 2})
	}
	packet(t, q, "x", api.Out{Seq: 13, Leaf: 2, Reason: api.NoSlot})
	hasTotal(t, q, 9, 104+8)
	hasStat(t, p, 2, api.Stat{Got: 1, GotBytes: 1, Lost: 1, Waiting: 1})
	// What is counted for a class is gone when the class is.
	back := refit(t, q, compile(t, family(0)))
	hasStat(t, back, 5, api.Stat{})
	hasStat(t, back, 4, api.Stat{Got: 2, GotBytes: 208, Sent: 1, SentBytes: 104})
	hasStat(t, back, 2, api.Stat{Got: 8, GotBytes: 8, Lost: 2})
	sendsNone(t, back, 0)
}

func TestRefitTurns(t *testing.T) { // P36.3: Carry with the leaves that are busy then
	p := start(t, lazy(0), 9, 9999)
	comes(t, p, 5, 4, 5, 2, 4)
	sends(t, p, 1, 5, 5) // the turns are 4, 2, 5
	s := p.Set()
	same := refit(t, p, s, p.Rows()...)
	if !slices.Equal(rest(same), rest(p)) {
		t.Error("a plane refitted to all that it has goes on otherwise")
	}
	// 4 is not busy any more: when a packet comes to it, it is the last one.
	q := refit(t, p, s, row(5, 3, 5, 104), row(2, 4, 2, 104))
	comes(t, q, 4)
	sends(t, q, 4, 2, 2)
	sends(t, q, 3, 5, 5)
	sends(t, q, 6, 4, 4)
	// 2 was not busy: it comes last, but before what comes later.
	p = start(t, lazy(0), 9, 9999)
	comes(t, p, 5)
	q = refit(t, p, s, row(5, 1, 5, 104), row(2, 4, 2, 104))
	comes(t, q, 4)
	sends(t, q, 1, 5, 5)
	sends(t, q, 4, 2, 2)
	sends(t, q, 2, 4, 4)
	// New classes that are busy are able to send.
	c := conf(0, 8, idler(1, 0, 1), idler(8, 1, 0.25), idler(9, 1, 0.5))
	q = refit(t, p, compile(t, c), row(9, 1, 5, 104), row(9, 7, 5, 104), row(8, 3, 5, 104))
	sends(t, q, 3, 8, 8)
	sends(t, q, 1, 9, 9)
	sends(t, q, 7, 9, 9)
	sendsNone(t, q, 0)
}

func TestRefitCredit(t *testing.T) { // P36.3: debts are carried over
	p := start(t, lazy(0), 9, 9999)
	packet(t, p, raw(4, 1000), api.Out{Seq: 1, Leaf: 4})
	comes(t, p, 4)
	sends(t, p, 1, 4, 4)
	comes(t, p, 5, 5)
	q := refit(t, p, compile(t, lazy(1)), p.Rows()...)
	sends(t, q, 3, 5, 5)
	sends(t, q, 4, 5, 5)
	sends(t, q, 2, 4, 4)
}

func TestRefitTopLevel(t *testing.T) { // P36.3
	p := start(t, family(1), 9, 9999)
	comes(t, p, 4, 4)
	sends(t, p, 1, 4, 4)
	ticks(t, p, 3120, 3120)
	q := refit(t, p, p.Set(), p.Rows()...)
	sends(t, q, 2, 4, 3)
	comes(t, p, 2)
	q = refit(t, p, p.Set(), p.Rows()...)
	if !slices.Equal(q.Able(), []int{2}) {
		t.Error("Able() =", q.Able())
	}
}

func TestRefitArguments(t *testing.T) { // P36.3: the rows are neither changed nor kept
	p := start(t, family(0), 9, 9999)
	l := []queues.Row{row(5, 3, 4, 60), row(4, 2, 5, 70), row(4, 1, 5, 80), row(1, 9, 9, 9)}
	want := slices.Clone(l)
	q := refit(t, p, p.Set(), l[:3]...)
	if !slices.Equal(l, want) {
		t.Error("the rows are changed")
	}
	clear(l)
	hasRows(t, q, want[2], want[1], want[0])
	sends(t, q, 2, 4, 4) // it was put before 1
	// What is returned may be changed.
	clear(q.Rows())
	clear(q.Able())
	hasRows(t, q, want[2], want[0])
}

func TestApart(t *testing.T) { // P36.3: copies and refitted planes
	p := start(t, family(1), 9, 9999)
	comes(t, p, 4, 5, 4, 2)
	ticks(t, p, 3, 3)
	sends(t, p, 1, 4, 4)
	change := func(x *plane.Plane) {
		x.Packet(raw(5, 99))
		x.Packet("")
		x.Tick(3000)
		x.Ready()
		x.Ready()
	}
	makes := []func(x *plane.Plane) *plane.Plane{
		(*plane.Plane).Copy,
		func(x *plane.Plane) *plane.Plane {
			y, _ := x.Refit(x.Set(), x.Rows())
			return y
		},
	}
	for _, another := range makes {
		before, after := look(p), rest(p)
		q := another(p)
		if q == p || q.Set() != p.Set() {
			t.Fatal("not another one of the same set")
		}
		before.same(t, q)
		change(q)
		before.same(t, p)
		if !slices.Equal(rest(p), after) || p.Copy().Packet("x").Seq != 5 {
			t.Error("a change shows in the original")
		}
		x := another(p)
		y := another(p)
		change(x)
		before.same(t, y)
		look(q).same(t, x)
		if q.Packet("x") != x.Packet("x") || !slices.Equal(rest(q), rest(x)) {
			t.Error("both go on otherwise")
		}
		if !slices.Equal(rest(y), after) || y.Packet("x").Seq != 5 {
			t.Error("a change of the original shows")
		}
	}
}

func TestNil(t *testing.T) { // P36.3
	var p *plane.Plane
	if p.Now() != 0 || p.Set() != nil || p.Packet("x") != (api.Out{}) || p.Ready() != (api.Out{}) || p.Copy() != nil {
		t.Error("a nil plane")
	}
	if len(p.Rows()) != 0 || len(p.Able()) != 0 {
		t.Error("lists of a nil plane")
	}
	hasTotal(t, p, 0, 0)
	hasNoStat(t, p, wild...)
	for _, n := range wild {
		if p.Tick(n) != (api.Out{}) {
			t.Error("Tick of a nil plane")
		}
	}
}

// model is a plane made of lists and maps around a scheduler.
type model struct {
	set         *config.Set
	slots, room int
	now, seq    int
	waiting     []queues.Row // in the order in which they were put
	stats       map[int]api.Stat
	sched       *sched.Sched
}

func (m *model) busy() []int {
	var l []int
	for _, row := range m.waiting {
		l = append(l, row.Leaf)
	}
	slices.Sort(l)
	return slices.Compact(l)
}

func (m *model) count(leaf int) (own, bytes int) {
	for _, row := range m.waiting {
		bytes += row.Packet.Size
		if row.Leaf == leaf {
			own++
		}
	}
	return own, bytes
}

func (m *model) put(r queues.Row) int {
	own, bytes := m.count(r.Leaf)
	c, _ := m.set.Class(r.Leaf)
	switch {
	case !m.set.Tree().Leaf(r.Leaf):
		return api.NoLeaf
	case r.Packet.Size < 1 || r.Packet.Size > 2048:
		return api.BadSize
	case own == c.Limit:
		return api.QueueFull
	case len(m.waiting) == m.slots:
		return api.NoSlot
	case bytes+r.Packet.Size > m.room:
		return api.NoRoom
	}
	m.waiting = append(m.waiting, r)
	return api.Kept
}

func (m *model) packet(raw string) api.Out {
	m.seq++
	leaf, k := m.set.Of(raw)
	reason := m.put(queues.Row{Leaf: leaf, Packet: api.Packet{Seq: m.seq, Size: len(raw), Key: k}})
	s := m.stats[leaf]
	if reason == api.Kept {
		s.Got++
		s.GotBytes += len(raw)
		m.sched.Come(leaf, m.now)
	} else {
		s.Lost++
	}
	m.stats[leaf] = s
	return api.Out{Kind: api.EvPacket, Seq: m.seq, Leaf: leaf, Reason: reason, Now: m.now}
}

func (m *model) ready() api.Out {
	leaf, lender, ok := m.sched.Pick(m.now, m.busy())
	if !ok {
		wake, _ := m.sched.Wake(m.now, m.busy())
		return api.Out{Kind: api.EvReady, Wake: wake, Now: m.now}
	}
	i := slices.IndexFunc(m.waiting, func(r queues.Row) bool { return r.Leaf == leaf })
	x := m.waiting[i].Packet
	m.waiting = slices.Delete(slices.Clone(m.waiting), i, i+1)
	s := m.stats[leaf]
	s.Sent++
	s.SentBytes += x.Size
	m.stats[leaf] = s
	m.sched.Gone(leaf, lender, x.Size, m.now, !slices.Contains(m.busy(), leaf))
	return api.Out{Kind: api.EvReady, Seq: x.Seq, Leaf: leaf, Lender: lender, Now: m.now}
}

func (m *model) tick(n int) api.Out {
	if n >= 0 && n <= 1<<40 {
		m.now = min(1<<60, m.now+n)
	}
	return api.Out{Kind: api.EvTick, Now: m.now}
}

func (m *model) refit(s *config.Set, l []queues.Row) (*model, api.Errno) {
	next := &model{set: s, slots: m.slots, room: m.room, now: m.now, seq: m.seq, stats: map[int]api.Stat{}}
	for _, r := range l {
		switch next.put(r) {
		case api.Kept:
		case api.NoLeaf:
			return nil, api.ErrLeaf
		case api.QueueFull:
			return nil, api.ErrLimit
		default:
			return nil, api.ErrFull
		}
	}
	for _, id := range s.IDs() {
		next.stats[id] = m.stats[id]
	}
	next.sched = m.sched.Carry(s, m.now, next.busy())
	return next, api.OK
}

// agrees compares all that both show.
func (m *model) agrees(t *testing.T, p *plane.Plane) {
	t.Helper()
	rows, bytes := slices.Clone(m.waiting), 0
	slices.SortStableFunc(rows, func(a, b queues.Row) int {
		if a.Packet.Seq != b.Packet.Seq {
			return a.Packet.Seq - b.Packet.Seq
		}
		return a.Leaf - b.Leaf
	})
	hasRows(t, p, rows...)
	for _, row := range rows {
		bytes += row.Packet.Size
	}
	hasTotal(t, p, len(rows), bytes)
	for id := range 14 {
		_, is := m.set.Class(id)
		if !is {
			hasNoStat(t, p, id)
			continue
		}
		s := m.stats[id]
		s.Waiting, _ = m.count(id)
		hasStat(t, p, id, s)
		want, _ := m.sched.State(id)
		if got, ok := p.State(id); got != want || !ok {
			t.Errorf("State(%d) = %+v, %v, not %+v", id, got, ok, want)
		}
	}
	if want := m.sched.Able(m.now, m.busy()); !slices.Equal(p.Able(), want) {
		t.Errorf("Able() = %v, not %v", p.Able(), want)
	}
	if p.Now() != m.now || p.Set() != m.set {
		t.Errorf("Now() = %d, not %d", p.Now(), m.now)
	}
	if t.Failed() {
		t.FailNow()
	}
}

// random returns a configuration with IDs up to 12 and filters for ports up to 5.
func random(t *testing.T, r *rand.Rand) api.Config {
	var l []api.Class
	for i, id := range r.Perm(12)[:1+r.Intn(7)] {
		c := of(id+1, 0, 1)
		if i > 0 {
			c.Parent, c.Share = l[r.Intn(min(i, 3))].ID, math.Ldexp(1, -i)
		}
		c.Weight, c.MinIdle, c.MaxIdle = r.Intn(4), -r.Intn(50000), r.Intn(100)
		c.Prio, c.Quantum, c.Limit = r.Intn(3)*r.Intn(4), 1+r.Intn(300), 1+r.Intn(6)
		c.Bounded, c.Isolated = r.Intn(8) == 0, r.Intn(8) == 0
		l = append(l, c)
	}
	c := conf(r.Intn(3), l[len(l)-1].ID, l...)
	leaves := compile(t, c).Leaves()
	for port := 1 + r.Intn(3); port <= 5; port++ {
		c.Filters = append(c.Filters, to(port, leaves[r.Intn(len(leaves))]))
	}
	return c
}

// arrival returns the bytes of some packet.
func arrival(r *rand.Rand) string {
	switch r.Intn(12) {
	case 0:
		return strings.Repeat("x", r.Intn(3)*r.Intn(1100))
	case 1:
		return raw(r.Intn(7), 60)[:r.Intn(60)]
	}
	return raw(r.Intn(7), 28+r.Intn(200))
}

// resettle returns rows for another set, most of which fit.
func resettle(r *rand.Rand, s *config.Set, l []queues.Row) []queues.Row {
	rows, leaves := slices.Clone(l), s.Leaves()
	for i := range rows {
		if !s.Tree().Leaf(rows[i].Leaf) && r.Intn(20) > 0 {
			rows[i].Leaf = leaves[r.Intn(len(leaves))]
		}
	}
	switch r.Intn(8) {
	case 0:
		rows = rows[:r.Intn(1+len(rows))]
	case 1:
		r.Shuffle(len(rows), func(i, j int) { rows[i], rows[j] = rows[j], rows[i] })
	case 2:
		rows = append(rows, row(r.Intn(14), r.Intn(50), 3, r.Intn(3)*r.Intn(1100)))
	}
	return rows
}

func TestSecondImplementation(t *testing.T) { // P36.1, P36.2, P36.3
	r := rand.New(rand.NewSource(36))
	refits := map[api.Errno]int{}
	reasons := map[int]int{}
	sent := 0
	for range 50 {
		c := random(t, r)
		slots, room := 1+r.Intn(15), r.Intn(2500)
		p := start(t, c, slots, room)
		m := &model{set: p.Set(), slots: slots, room: room, stats: map[int]api.Stat{}, sched: sched.New(p.Set(), 0)}
		for range 120 {
			var got, want api.Out
			switch r.Intn(12) {
			case 0:
				s := compile(t, random(t, r))
				l := resettle(r, s, p.Rows())
				q, e := p.Refit(s, l)
				other, f := m.refit(s, l)
				if e != f || (q == nil) != (other == nil) {
					t.Fatalf("Refit = %v, not %v", e, f)
				}
				refits[e]++
				if e == api.OK {
					p, m = q, other
				}
			case 1:
				p = p.Copy()
			case 2, 3, 4:
				n := r.Intn(3)*r.Intn(3000) - 1
				got, want = p.Tick(n), m.tick(n)
			case 5, 6, 7:
				got, want = p.Ready(), m.ready()
				sent += min(1, got.Seq)
			default:
				s := arrival(r)
				got, want = p.Packet(s), m.packet(s)
				reasons[got.Reason]++
			}
			if got != want {
				t.Fatalf("%+v, not %+v", got, want)
			}
			m.agrees(t, p)
		}
	}
	if len(refits) != 4 || len(reasons) != 5 || sent < 200 {
		t.Error("too little happened:", refits, reasons, sent)
	}
}

func TestAccounting(t *testing.T) { // P36.4
	r := rand.New(rand.NewSource(364))
	idles, waits := 0, 0
	for range 40 {
		p := start(t, random(t, r), 1+r.Intn(15), r.Intn(2500))
		lost, sent, arrived := map[int]int{}, map[int]int{}, 0
		for range 150 {
			switch r.Intn(5) {
			case 0:
				p.Tick(r.Intn(3000))
			case 1, 2:
				busy, able := len(p.Rows()) > 0, p.Able()
				out := p.Ready()
				if (out.Seq == 0) != (len(able) == 0) {
					t.Fatalf("Ready() = %+v where %v may send", out, able)
				}
				if out.Seq > 0 {
					sent[out.Seq]++
					continue
				}
				idles++
				if (out.Wake > out.Now) != busy || !busy && out.Wake != 0 {
					t.Fatalf("Ready() = %+v", out)
				}
				if busy {
					waits++
				}
			default:
				out := p.Packet(arrival(r))
				arrived++
				if out.Seq != arrived {
					t.Fatalf("Seq %d, not %d", out.Seq, arrived)
				}
				if out.Reason != api.Kept {
					lost[out.Seq]++
				}
			}
			waiting := map[int]int{}
			for _, row := range p.Rows() {
				waiting[row.Packet.Seq]++
			}
			for seq := 1; seq <= arrived; seq++ {
				if lost[seq]+sent[seq]+waiting[seq] != 1 {
					t.Fatalf("packet %d: lost %d, sent %d, waiting %d", seq, lost[seq], sent[seq], waiting[seq])
				}
			}
		}
	}
	if idles < 100 || waits < 100 {
		t.Error("too little happened:", idles, waits)
	}
}

func TestAnything(t *testing.T) { // P6
	c := api.Class{}
	for _, n := range wild {
		for _, m := range wild {
			plane.New(api.Config{Tpb: n, Rule: m, Default: n, Classes: []api.Class{c}}, m, n)
			plane.New(family(n), m, n)
		}
	}
	s := compile(t, lazy(1))
	planes := []*plane.Plane{nil, start(t, family(1), 4096, 1<<22), start(t, lazy(2), 1, 0)}
	for _, p := range planes {
		for i, n := range wild {
			m := wild[(i+5)%len(wild)]
			p.Packet(strings.Repeat("E", i*200))
			p.Packet(raw(i, 28+i))
			p.Ready()
			p.Tick(n)
			p.Stat(n)
			p.State(n)
			p.Able()
			x := api.Packet{Seq: n, Size: m, Key: api.Key{Version: n}}
			for _, leaf := range append(wild, 5) {
				q, _ := p.Refit(s, []queues.Row{{Leaf: leaf, Packet: x}, {Leaf: leaf, Packet: api.Packet{Seq: n, Size: 1}}})
				q.Ready()
				q.Packet("x")
				p.Refit(nil, []queues.Row{{Leaf: leaf, Packet: x}})
				q, _ = p.Refit(s, []queues.Row{{Leaf: 5, Packet: api.Packet{Seq: n, Size: 1}}})
				q.Ready()
			}
			p.Copy().Ready()
			p.Rows()
			p.Total()
		}
	}
}
