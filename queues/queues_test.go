package queues_test

import (
	"math"
	"math/rand"
	"slices"
	"testing"

	"flashlock/api"
	"flashlock/config"
	"flashlock/queues"
)

var wild = []int{math.MinInt, math.MinInt32, -1, 0, 1, 2, 3, 2048, 2049, 4096, 4097, 65535, 1 << 22, 1<<22 + 1, math.MaxInt}

// set returns the set of the root 1 and of leaves below it with those Limits, whose IDs begin at 2.
func set(t *testing.T, limits ...int) *config.Set {
	t.Helper()
	l := []api.Class{{ID: 1, Share: 1, Quantum: 1, Limit: 1}}
	for i, limit := range limits {
		l = append(l, api.Class{ID: 2 + i, Parent: 1, Share: 1.0 / 64, Quantum: 1, Limit: limit})
	}
	return compile(t, l...)
}

// compile returns the set of those classes, the last of which is a leaf.
func compile(t *testing.T, l ...api.Class) *config.Set {
	t.Helper()
	s, e := config.Compile(api.Config{Tpb: 1, Default: l[len(l)-1].ID, Classes: l})
	if e != api.OK {
		t.Fatal("Compile:", e)
	}
	return s
}

// of returns a packet that is told from others.
func of(seq, size int) api.Packet {
	return api.Packet{Seq: seq, Size: size, Key: api.Key{Version: 4, SrcPort: seq, DstPort: size}}
}

func puts(t *testing.T, q *queues.Queues, leaf int, p api.Packet, want int) {
	t.Helper()
	before := q.Rows()
	if got := q.Put(leaf, p); got != want {
		t.Fatalf("Put(%d, %+v) = %d, not %d", leaf, p, got, want)
	}
	if want != api.Kept && !slices.Equal(q.Rows(), before) {
		t.Fatalf("Put(%d, %+v) changed the queues", leaf, p)
	}
}

func pops(t *testing.T, q *queues.Queues, leaf int, want api.Packet) {
	t.Helper()
	if got, ok := q.Head(leaf); got != want || !ok {
		t.Fatalf("Head(%d) = %+v, %v, not %+v", leaf, got, ok, want)
	}
	if got, ok := q.Pop(leaf); got != want || !ok {
		t.Fatalf("Pop(%d) = %+v, %v, not %+v", leaf, got, ok, want)
	}
}

// empty checks that no packet waits at a leaf, or that it is none.
func empty(t *testing.T, q *queues.Queues, leaf int) {
	t.Helper()
	if p, ok := q.Head(leaf); p != (api.Packet{}) || ok {
		t.Errorf("Head(%d) = %+v, %v", leaf, p, ok)
	}
	if p, ok := q.Pop(leaf); p != (api.Packet{}) || ok {
		t.Errorf("Pop(%d) = %+v, %v", leaf, p, ok)
	}
	if q.Len(leaf) != 0 || q.Bytes(leaf) != 0 || len(q.All(leaf)) != 0 || slices.Contains(q.Busy(), leaf) {
		t.Errorf("queue %d is not empty", leaf)
	}
}

func total(t *testing.T, q *queues.Queues, packets, bytes int) {
	t.Helper()
	if n, m := q.Total(); n != packets || m != bytes {
		t.Errorf("Total() = %d, %d, not %d, %d", n, m, packets, bytes)
	}
}

func TestExample(t *testing.T) { // P33.1
	q := queues.New(set(t, 1), 5, 100)
	puts(t, q, 2, of(1, 9), api.Kept)
	puts(t, q, 2, of(2, 9), api.QueueFull)
	pops(t, q, 2, of(1, 9))
	puts(t, q, 2, of(3, 9), api.Kept)
	pops(t, q, 2, of(3, 9))
	empty(t, q, 2)
}

func TestNew(t *testing.T) { // P33.1
	s := set(t, 3, 3)
	for _, slots := range []int{1, 2, 4095, 4096} {
		for _, room := range []int{0, 1, 1<<22 - 1, 1 << 22} {
			q := queues.New(s, slots, room)
			if q == nil {
				t.Fatalf("New(%d, %d) = nil", slots, room)
			}
			total(t, q, 0, 0)
			for id := range 5 {
				empty(t, q, id)
			}
			if len(q.Busy()) != 0 || len(q.Rows()) != 0 {
				t.Error("new queues are not empty")
			}
		}
	}
	for _, slots := range []int{math.MinInt, -1, 0, 4097, math.MaxInt} {
		if queues.New(s, slots, 100) != nil {
			t.Errorf("New with %d slots", slots)
		}
	}
	for _, room := range []int{math.MinInt, -1, 1<<22 + 1, math.MaxInt} {
		if queues.New(s, 5, room) != nil {
			t.Errorf("New with room %d", room)
		}
	}
	if queues.New(nil, 5, 100) != nil || queues.New(nil, 0, -1) != nil {
		t.Error("New of no set")
	}
}

func TestNoLeaf(t *testing.T) { // P33.1
	l := []api.Class{{ID: 1, Share: 1, Quantum: 1, Limit: 9}, {ID: 4, Parent: 1, Share: 0.5, Quantum: 1, Limit: 9}, {ID: 7, Parent: 4, Share: 0.5, Quantum: 1, Limit: 9}}
	q := queues.New(compile(t, l...), 1, 100)
	for _, id := range []int{1, 4, 0, 2, 6, 8, -1, math.MinInt, math.MaxInt, 65536} {
		// Nothing else is asked before it.
		for _, size := range []int{1, 0, 2049, 101} {
			puts(t, q, id, of(1, size), api.NoLeaf)
		}
		empty(t, q, id)
	}
	puts(t, q, 7, of(1, 100), api.Kept)
	puts(t, q, 1, of(1, 1), api.NoLeaf)
	puts(t, q, 8, of(1, -1), api.NoLeaf)
}

func TestBadSize(t *testing.T) { // P33.1
	q := queues.New(set(t, 1, 9), 2, 4096)
	bad := []int{math.MinInt, -1, 0, 2049, math.MaxInt}
	check := func() {
		t.Helper()
		for _, leaf := range []int{2, 3} {
			for _, size := range bad {
				puts(t, q, leaf, of(1, size), api.BadSize)
			}
		}
	}
	check()
	puts(t, q, 2, of(1, 2048), api.Kept)
	// A queue that is full comes after it, and so do slots and room.
	check()
	puts(t, q, 3, of(2, 1), api.Kept)
	check()
}

func TestQueueFull(t *testing.T) { // P33.1, P33.4
	q := queues.New(set(t, 2, 3), 5, 10)
	puts(t, q, 2, of(1, 1), api.Kept)
	puts(t, q, 2, of(2, 1), api.Kept)
	puts(t, q, 2, of(3, 1), api.QueueFull)
	puts(t, q, 3, of(3, 1), api.Kept)
	// The queue's limit comes before a lack of room.
	puts(t, q, 2, of(3, 9), api.QueueFull)
	puts(t, q, 3, of(3, 9), api.NoRoom)
	puts(t, q, 3, of(4, 1), api.Kept)
	puts(t, q, 3, of(5, 1), api.Kept)
	// And before a lack of slots.
	puts(t, q, 2, of(6, 1), api.QueueFull)
	puts(t, q, 3, of(6, 1), api.QueueFull)
	pops(t, q, 3, of(3, 1))
	puts(t, q, 2, of(7, 1), api.QueueFull)
	puts(t, q, 3, of(7, 1), api.Kept)
	q = queues.New(set(t, 1024), 4096, 1<<22)
	for seq := range 1024 {
		puts(t, q, 2, of(seq, 1), api.Kept)
	}
	puts(t, q, 2, of(1, 1), api.QueueFull)
}

func TestNoSlotNoRoom(t *testing.T) { // P33.1, P33.4
	q := queues.New(set(t, 9, 9), 3, 10)
	puts(t, q, 2, of(1, 11), api.NoRoom)
	puts(t, q, 2, of(1, 10), api.Kept)
	puts(t, q, 3, of(2, 1), api.NoRoom)
	pops(t, q, 2, of(1, 10))
	puts(t, q, 2, of(1, 8), api.Kept)
	puts(t, q, 3, of(2, 3), api.NoRoom)
	puts(t, q, 3, of(2, 1), api.Kept)
	puts(t, q, 3, of(3, 1), api.Kept)
	total(t, q, 3, 10)
	// Slots come before room.
	puts(t, q, 3, of(4, 1), api.NoSlot)
	puts(t, q, 2, of(4, 2048), api.NoSlot)
	pops(t, q, 3, of(2, 1))
	puts(t, q, 2, of(4, 2), api.NoRoom)
	puts(t, q, 2, of(4, 1), api.Kept)
	puts(t, q, 2, of(5, 1), api.NoSlot)
	q = queues.New(set(t, 9), 3, 0)
	puts(t, q, 2, of(1, 1), api.NoRoom)
}

func TestOrder(t *testing.T) { // P33.1, P33.4
	q := queues.New(set(t, 9, 9), 4, 100)
	// Sequence numbers do not matter to a queue, nor do packets that are the same.
	for _, p := range []api.Packet{of(5, 1), of(3, 2), of(5, 1)} {
		puts(t, q, 3, p, api.Kept)
	}
	pops(t, q, 3, of(5, 1))
	puts(t, q, 2, of(9, 4), api.Kept)
	puts(t, q, 3, of(1, 3), api.Kept)
	if !slices.Equal(q.All(3), []api.Packet{of(3, 2), of(5, 1), of(1, 3)}) || !slices.Equal(q.All(2), []api.Packet{of(9, 4)}) {
		t.Error("All =", q.All(3), q.All(2))
	}
	if q.Len(3) != 3 || q.Bytes(3) != 6 || q.Len(2) != 1 || q.Bytes(2) != 4 {
		t.Error("Len or Bytes")
	}
	total(t, q, 4, 10)
	pops(t, q, 3, of(3, 2))
	pops(t, q, 3, of(5, 1))
	pops(t, q, 2, of(9, 4))
	pops(t, q, 3, of(1, 3))
	empty(t, q, 2)
	empty(t, q, 3)
	total(t, q, 0, 0)
}

func TestBusy(t *testing.T) { // P33.2
	q := queues.New(set(t, 9, 9, 9), 9, 100)
	for i, leaf := range []int{4, 2, 4, 3} {
		puts(t, q, leaf, of(i, 1), api.Kept)
		want := [][]int{{4}, {2, 4}, {2, 4}, {2, 3, 4}}[i]
		if !slices.Equal(q.Busy(), want) {
			t.Errorf("Busy() = %v, not %v", q.Busy(), want)
		}
	}
	q.Pop(4)
	q.Pop(3)
	if !slices.Equal(q.Busy(), []int{2, 4}) {
		t.Error("Busy() =", q.Busy())
	}
}

func TestRows(t *testing.T) { // P33.2
	q := queues.New(set(t, 9, 9, 9), 20, 100)
	puts(t, q, 3, of(7, 1), api.Kept)
	puts(t, q, 4, of(2, 1), api.Kept)
	puts(t, q, 2, of(7, 2), api.Kept)
	puts(t, q, 3, of(2, 1), api.Kept)
	puts(t, q, 2, of(-4, 1), api.Kept)
	// Of one leaf and one Seq, the first that was put is the first.
	puts(t, q, 3, of(7, 9), api.Kept)
	puts(t, q, 3, of(7, 3), api.Kept)
	puts(t, q, 4, of(math.MaxInt, 1), api.Kept)
	puts(t, q, 4, of(math.MinInt, 1), api.Kept)
	want := []queues.Row{
		{4, of(math.MinInt, 1)}, {2, of(-4, 1)}, {3, of(2, 1)}, {4, of(2, 1)},
		{2, of(7, 2)}, {3, of(7, 1)}, {3, of(7, 9)}, {3, of(7, 3)}, {4, of(math.MaxInt, 1)},
	}
	if !slices.Equal(q.Rows(), want) {
		t.Errorf("Rows() = %v, not %v", q.Rows(), want)
	}
	// What is returned is new each time.
	clear(q.Rows())
	clear(q.All(3))
	clear(q.Busy())
	if !slices.Equal(q.Rows(), want) || q.All(3)[0] != of(7, 1) || !slices.Equal(q.Busy(), []int{2, 3, 4}) {
		t.Error("a change of a list shows in the queues")
	}
}

func TestEqualSeqs(t *testing.T) { // P33.2: so many that a sort which is not stable would show
	q := queues.New(set(t, 200, 200, 200), 600, 1<<22)
	var want []queues.Row
	for seq := range 2 {
		for _, leaf := range []int{2, 3, 4} {
			for size := range 200 / 2 {
				want = append(want, queues.Row{Leaf: leaf, Packet: of(seq, 1+size)})
			}
		}
	}
	for i := range want {
		// Those with the greater Seq are put first.
		row := want[(i+300)%600]
		puts(t, q, row.Leaf, row.Packet, api.Kept)
	}
	if !slices.Equal(q.Rows(), want) {
		t.Error("rows with equal Seqs stand otherwise")
	}
}

// fills checks that the rows fit, and returns the queues that they fill.
func fills(t *testing.T, q *queues.Queues, s *config.Set, l []queues.Row) *queues.Queues {
	t.Helper()
	rows, before := slices.Clone(l), q.Rows()
	next, e := q.Fill(s, l)
	if next == nil || e != api.OK {
		t.Fatalf("Fill(%v) = %v, %d", l, next, e)
	}
	if !slices.Equal(rows, l) || !slices.Equal(q.Rows(), before) {
		t.Errorf("Fill(%v) changed its arguments or its object", l)
	}
	for _, leaf := range s.Leaves() {
		var want []api.Packet
		for _, row := range l {
			if row.Leaf == leaf {
				want = append(want, row.Packet)
			}
		}
		if !slices.Equal(next.All(leaf), want) {
			t.Errorf("All(%d) = %v, not %v", leaf, next.All(leaf), want)
		}
	}
	return next
}

func failsToFill(t *testing.T, q *queues.Queues, s *config.Set, l []queues.Row, want api.Errno) {
	t.Helper()
	before := q.Rows()
	if next, e := q.Fill(s, l); next != nil || e != want {
		t.Errorf("Fill(%v) = %v, %d, not %d", l, next, e, want)
	}
	if !slices.Equal(q.Rows(), before) {
		t.Errorf("Fill(%v) changed its object", l)
	}
}

func TestFill(t *testing.T) { // P33.3
	q := queues.New(set(t, 1, 1), 4, 20)
	puts(t, q, 2, of(1, 9), api.Kept)
	puts(t, q, 3, of(2, 9), api.Kept)
	next := set(t, 2, 1, 4)
	// What waits in q takes nothing of the new buffer.
	full := fills(t, q, next, []queues.Row{{4, of(1, 5)}, {2, of(9, 5)}, {4, of(3, 5)}, {4, of(2, 5)}})
	total(t, full, 4, 20)
	puts(t, full, 4, of(5, 1), api.NoSlot)
	pops(t, full, 4, of(1, 5))
	puts(t, full, 4, of(5, 6), api.NoRoom)
	puts(t, full, 3, of(5, 5), api.Kept)
	puts(t, full, 3, of(6, 1), api.QueueFull)
	total(t, q, 2, 18)
	for _, l := range [][]queues.Row{nil, {}} {
		total(t, fills(t, q, next, l), 0, 0)
	}
	again := fills(t, q, next, q.Rows())
	if !slices.Equal(again.Rows(), q.Rows()) {
		t.Error("the rows of queues do not fill others")
	}
	pops(t, again, 2, of(1, 9))
	if q.Len(2) != 1 {
		t.Error("queues and those filled from them are one")
	}
	// The buffer has the same size through many of them.
	more := fills(t, fills(t, full, next, nil), next, nil)
	for seq := range 4 {
		puts(t, more, 4, of(seq, 5), api.Kept)
	}
	puts(t, more, 4, of(5, 1), api.QueueFull)
	puts(t, more, 3, of(5, 1), api.NoSlot)
}

func TestFillErrors(t *testing.T) { // P33.3
	q := queues.New(set(t, 9), 3, 20)
	puts(t, q, 2, of(1, 9), api.Kept)
	s := set(t, 2, 9)
	row := func(leaf, size int) queues.Row { return queues.Row{Leaf: leaf, Packet: of(1, size)} }
	failsToFill(t, q, nil, nil, api.ErrArg)
	failsToFill(t, q, nil, []queues.Row{row(2, 1)}, api.ErrArg)
	failsToFill(t, q, nil, []queues.Row{row(7, 0)}, api.ErrArg)
	failsToFill(t, q, s, []queues.Row{row(4, 1)}, api.ErrLeaf)
	failsToFill(t, q, s, []queues.Row{row(1, 1)}, api.ErrLeaf)
	failsToFill(t, q, s, []queues.Row{row(0, 0)}, api.ErrLeaf)
	failsToFill(t, q, s, []queues.Row{row(2, 1), row(2, 1), row(2, 1)}, api.ErrLimit)
	// Sizes, slots and room have one error.
	failsToFill(t, q, s, []queues.Row{row(2, 0)}, api.ErrFull)
	failsToFill(t, q, s, []queues.Row{row(2, 2049)}, api.ErrFull)
	failsToFill(t, q, s, []queues.Row{row(2, 1), row(2, 1), row(2, 0)}, api.ErrFull)
	failsToFill(t, q, s, []queues.Row{row(3, 1), row(3, 1), row(3, 1), row(3, 1)}, api.ErrFull)
	failsToFill(t, q, s, []queues.Row{row(3, 20), row(3, 1)}, api.ErrFull)
	failsToFill(t, q, s, []queues.Row{row(3, 21)}, api.ErrFull)
	// A queue that is full comes before slots and room that are.
	failsToFill(t, q, s, []queues.Row{row(2, 10), row(2, 10), row(2, 1)}, api.ErrLimit)
	failsToFill(t, q, s, []queues.Row{row(2, 1), row(2, 1), row(3, 1), row(2, 1)}, api.ErrLimit)
	// The first row that is not kept determines the error.
	failsToFill(t, q, s, []queues.Row{row(3, 21), row(4, 1), row(2, 1)}, api.ErrFull)
	failsToFill(t, q, s, []queues.Row{row(4, 1), row(3, 21)}, api.ErrLeaf)
	failsToFill(t, q, s, []queues.Row{row(2, 1), row(2, 1), row(2, 1), row(4, 1)}, api.ErrLimit)
}

func TestCopy(t *testing.T) { // P33.3
	q := queues.New(set(t, 3, 3), 4, 20)
	puts(t, q, 2, of(1, 5), api.Kept)
	puts(t, q, 3, of(2, 5), api.Kept)
	puts(t, q, 2, of(3, 5), api.Kept)
	before := q.Rows()
	c := q.Copy()
	if c == q || !slices.Equal(c.Rows(), before) {
		t.Fatal("Copy has other packets")
	}
	pops(t, c, 2, of(1, 5))
	puts(t, c, 3, of(4, 6), api.Kept)
	puts(t, c, 2, of(5, 4), api.Kept)
	if !slices.Equal(q.Rows(), before) {
		t.Error("a change of the copy shows in the original")
	}
	total(t, q, 3, 15)
	c = q.Copy()
	pops(t, q, 3, of(2, 5))
	pops(t, q, 2, of(1, 5))
	puts(t, q, 2, of(6, 1), api.Kept)
	puts(t, q, 2, of(7, 2), api.Kept)
	puts(t, q, 3, of(8, 3), api.Kept)
	if !slices.Equal(c.Rows(), before) {
		t.Error("a change of the original shows in the copy")
	}
	// The copy has its limits, its slots and its room.
	puts(t, c, 2, of(4, 6), api.NoRoom)
	puts(t, c, 2, of(4, 1), api.Kept)
	puts(t, c, 2, of(9, 1), api.QueueFull)
	puts(t, c, 3, of(9, 1), api.NoSlot)
	fills(t, c, set(t, 1, 9), []queues.Row{{3, of(1, 5)}, {3, of(1, 5)}, {3, of(1, 5)}, {3, of(1, 5)}})
	failsToFill(t, c, set(t, 1, 9), []queues.Row{{3, of(1, 10)}, {3, of(1, 11)}}, api.ErrFull)
}

func TestNil(t *testing.T) { // P33.3
	var q *queues.Queues
	for _, leaf := range wild {
		if q.Put(leaf, of(1, 1)) != api.NoLeaf || q.Put(leaf, of(1, 0)) != api.NoLeaf {
			t.Error("Put into nil queues")
		}
		empty(t, q, leaf)
	}
	total(t, q, 0, 0)
	if len(q.Busy()) != 0 || len(q.Rows()) != 0 || q.Copy() != nil {
		t.Error("nil queues")
	}
	failsToFill(t, q, set(t, 1), nil, api.ErrArg)
	failsToFill(t, q, nil, nil, api.ErrArg)
}

// model is the packets of each leaf, in the words of the chapter.
type model struct {
	limits      map[int]int
	slots, room int
	waiting     map[int][]api.Packet
}

func (m model) total() (packets, bytes int) {
	for _, l := range m.waiting {
		packets += len(l)
		for _, p := range l {
			bytes += p.Size
		}
	}
	return packets, bytes
}

func (m model) put(leaf int, p api.Packet) int {
	limit, ok := m.limits[leaf]
	packets, bytes := m.total()
	switch {
	case !ok:
		return api.NoLeaf
	case p.Size < 1 || p.Size > 2048:
		return api.BadSize
	case len(m.waiting[leaf]) == limit:
		return api.QueueFull
	case packets == m.slots:
		return api.NoSlot
	case bytes+p.Size > m.room:
		return api.NoRoom
	}
	m.waiting[leaf] = append(m.waiting[leaf], p)
	return api.Kept
}

func (m model) pop(leaf int) (api.Packet, bool) {
	if len(m.waiting[leaf]) == 0 {
		return api.Packet{}, false
	}
	p := m.waiting[leaf][0]
	m.waiting[leaf] = m.waiting[leaf][1:]
	return p, true
}

// rows inserts the packets of each leaf behind all that do not come after them.
func (m model) rows() []queues.Row {
	var rows []queues.Row
	for leaf := range 20 {
		for _, p := range m.waiting[leaf] {
			at := len(rows)
			for at > 0 && rows[at-1].Packet.Seq > p.Seq {
				at--
			}
			rows = slices.Insert(rows, at, queues.Row{Leaf: leaf, Packet: p})
		}
	}
	return rows
}

// agrees checks everything that can be asked of the queues.
func (m model) agrees(t *testing.T, q *queues.Queues) {
	t.Helper()
	var busy []int
	for leaf := range 12 {
		l, bytes := m.waiting[leaf], 0
		for _, p := range l {
			bytes += p.Size
		}
		if len(l) > 0 {
			busy = append(busy, leaf)
		}
		if q.Len(leaf) != len(l) || q.Bytes(leaf) != bytes || !slices.Equal(q.All(leaf), l) {
			t.Fatalf("queue %d is %v, not %v", leaf, q.All(leaf), l)
		}
	}
	if !slices.Equal(q.Busy(), busy) {
		t.Fatalf("Busy() = %v, not %v", q.Busy(), busy)
	}
	packets, bytes := m.total()
	total(t, q, packets, bytes)
}

func TestSecondImplementation(t *testing.T) { // P33.1, P33.2, P33.3, P33.4
	r := rand.New(rand.NewSource(33))
	reasons := map[int]int{}
	for range 60 {
		m := model{limits: map[int]int{}, slots: 1 + r.Intn(12), room: r.Intn(60), waiting: map[int][]api.Packet{}}
		if r.Intn(3) == 0 {
			m.room = 5000
		}
		limits := make([]int, 1+r.Intn(6))
		for i := range limits {
			limits[i] = 1 + r.Intn(5)
			m.limits[2+i] = limits[i]
		}
		q := queues.New(set(t, limits...), m.slots, m.room)
		for range 200 {
			leaf := 1 + r.Intn(9)
			switch r.Intn(10) {
			case 0, 1, 2:
				want, ok := m.pop(leaf)
				if p, found := q.Pop(leaf); p != want || found != ok {
					t.Fatalf("Pop(%d) = %v, %v, not %v, %v", leaf, p, found, want, ok)
				}
			case 3:
				q = q.Copy()
			case 4:
				if !slices.Equal(q.Rows(), m.rows()) {
					t.Fatalf("Rows() = %v, not %v", q.Rows(), m.rows())
				}
			default:
				p := of(r.Intn(9), 1+r.Intn(12))
				if r.Intn(12) == 0 {
					p.Size = []int{-1, 0, 2048, 2049}[r.Intn(4)]
				}
				got, want := q.Put(leaf, p), m.put(leaf, p)
				reasons[want]++
				if got != want {
					t.Fatalf("Put(%d, %+v) = %d, not %d", leaf, p, got, want)
				}
			}
			m.agrees(t, q)
		}
	}
	for reason := range api.Reasons {
		if reasons[reason] < 30 {
			t.Errorf("reason %d came only %d times", reason, reasons[reason])
		}
	}
}

func TestFillAtRandom(t *testing.T) { // P33.3
	r := rand.New(rand.NewSource(333))
	wrongs := map[api.Errno]int{}
	for range 800 {
		slots, room := 1+r.Intn(8), 20+r.Intn(40)
		m := model{limits: map[int]int{2: 1 + r.Intn(4), 3: 1 + r.Intn(6)}, slots: slots, room: room, waiting: map[int][]api.Packet{}}
		q := queues.New(set(t, 1, 2, 3), slots, room)
		q.Put(2, of(1, 20))
		s := set(t, m.limits[2], m.limits[3])
		var l []queues.Row
		want := api.OK
		for range r.Intn(8) {
			row := queues.Row{Leaf: 2 + r.Intn(2), Packet: of(r.Intn(9), 1+r.Intn(12))}
			if r.Intn(20) == 0 {
				row.Leaf = 4
			}
			l = append(l, row)
			if want != api.OK {
				continue
			}
			want = []api.Errno{api.Kept: api.OK, api.BadSize: api.ErrFull, api.NoLeaf: api.ErrLeaf, api.QueueFull: api.ErrLimit, api.NoSlot: api.ErrFull, api.NoRoom: api.ErrFull}[m.put(row.Leaf, row.Packet)]
		}
		wrongs[want]++
		if want != api.OK {
			failsToFill(t, q, s, l, want)
			continue
		}
		m.agrees(t, fills(t, q, s, l))
	}
	for _, e := range []api.Errno{api.OK, api.ErrLeaf, api.ErrLimit, api.ErrFull} {
		if wrongs[e] < 20 {
			t.Errorf("error %d came only %d times", e, wrongs[e])
		}
	}
}

func TestLargest(t *testing.T) { // P33.1, P33.2, P33.4: all slots and 63 leaves
	limits := slices.Repeat([]int{1024}, 63)
	q := queues.New(set(t, limits...), 4096, 1<<22)
	for seq := range 4096 {
		if q.Put(2+seq%63, of(seq, 1024)) != api.Kept {
			t.Fatal("not kept:", seq)
		}
	}
	total(t, q, 4096, 1<<22)
	puts(t, q, 2, of(1, 1), api.NoSlot)
	c := q.Copy()
	for i, row := range c.Rows() {
		if row.Packet != of(i, 1024) || row.Leaf != 2+i%63 {
			t.Fatal("Rows at", i)
		}
	}
	filled := fills(t, q, set(t, limits...), q.Rows())
	for seq := range 4096 {
		for _, x := range []*queues.Queues{q, c, filled} {
			if p, ok := x.Pop(2 + seq%63); !ok || p != of(seq, 1024) {
				t.Fatal("Pop of", seq, p, ok)
			}
		}
	}
	total(t, c, 0, 0)
}

func TestAnything(t *testing.T) { // P6
	s := set(t, 1, 2)
	for _, slots := range wild {
		for _, room := range wild {
			q := queues.New(s, slots, room)
			for _, n := range wild {
				q.Put(n, of(n, n))
				q.Put(2, of(n, n))
				q.Head(n)
				q.Pop(n)
				q.Len(n)
				q.Bytes(n)
				q.All(n)
				q.Fill(s, []queues.Row{{n, of(n, n)}, {3, of(n, 1)}, {n, of(n, 1)}})
			}
			q.Busy()
			q.Rows()
			q.Total()
			q.Copy().Pop(2)
		}
	}
}
