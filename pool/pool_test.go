package pool_test

import (
	"math"
	"math/rand"
	"testing"

	"flashlock/api"
	"flashlock/pool"
	"flashlock/slab"
)

func packet(seq, size int) api.Packet {
	key := api.Key{Version: 4, Src: api.Addr{Hi: 1, Lo: uint64(seq)}, Dst: api.Addr{Hi: 3, Lo: 4}, Proto: 6, SrcPort: seq, DstPort: 9}
	return api.Packet{Seq: seq, Size: size, Key: key}
}

func put(t *testing.T, p *pool.Pool, x api.Packet, reason int) slab.Handle {
	t.Helper()
	if got := p.Fits(x.Size); got != reason {
		t.Errorf("Fits(%d) = %d, want %d", x.Size, got, reason)
	}
	slots, bytes := p.Slots(), p.Bytes()
	h, got := p.Put(x)
	if got != reason {
		t.Errorf("Put of %d bytes = %d, want %d", x.Size, got, reason)
	}
	if reason == api.Kept {
		slots, bytes = slots+1, bytes+x.Size
	} else if h != (slab.Handle{}) {
		t.Errorf("a packet that was not kept has handle %v", h)
	}
	holds(t, p, slots, bytes)
	return h
}

func holds(t *testing.T, p *pool.Pool, slots, bytes int) {
	t.Helper()
	if p.Slots() != slots || p.Bytes() != bytes {
		t.Errorf("the buffer holds %d packets of %d bytes, want %d of %d", p.Slots(), p.Bytes(), slots, bytes)
	}
}

func has(t *testing.T, p *pool.Pool, h slab.Handle, want api.Packet) {
	t.Helper()
	if x, ok := p.Get(h); x != want || !ok {
		t.Errorf("Get(%v) = %v, %t, want %v", h, x, ok, want)
	}
}

func lacks(t *testing.T, p *pool.Pool, h slab.Handle) {
	t.Helper()
	if x, ok := p.Get(h); x != (api.Packet{}) || ok {
		t.Errorf("Get(%v) = %v, %t", h, x, ok)
	}
	slots, bytes := p.Slots(), p.Bytes()
	if x, ok := p.Free(h); x != (api.Packet{}) || ok {
		t.Errorf("Free(%v) = %v, %t", h, x, ok)
	}
	holds(t, p, slots, bytes)
}

func TestNew(t *testing.T) { // P8.1
	for _, c := range [][2]int{{math.MinInt, 1}, {-1, 1}, {0, 1}, {api.MaxSlots + 1, 1}, {math.MaxInt, 1}, {1, math.MinInt}, {1, -1}, {1, api.MaxRoom + 1}, {1, math.MaxInt}, {0, -1}} {
		if pool.New(c[0], c[1]) != nil {
			t.Errorf("New(%d, %d) is not nil", c[0], c[1])
		}
	}
	for _, c := range [][2]int{{1, 0}, {1, api.MaxRoom}, {api.MaxSlots, 0}, {api.MaxSlots, api.MaxRoom}} {
		p := pool.New(c[0], c[1])
		if p == nil {
			t.Fatalf("New(%d, %d) is nil", c[0], c[1])
		}
		holds(t, p, 0, 0)
	}
}

func TestExample(t *testing.T) { // P8.1
	p := pool.New(2, 100)
	put(t, p, packet(1, 60), api.Kept)
	put(t, p, packet(2, 50), api.NoRoom)
	put(t, p, packet(3, 40), api.Kept)
	put(t, p, packet(4, 1), api.NoSlot)
}

func TestSizes(t *testing.T) { // P8.1
	bad := []int{math.MinInt, -1, 0, api.MaxPacket + 1, api.MaxRoom, math.MaxInt}
	p := pool.New(2, api.MaxRoom)
	for _, size := range bad {
		put(t, p, packet(1, size), api.BadSize)
	}
	put(t, p, packet(1, 1), api.Kept)
	put(t, p, packet(2, api.MaxPacket), api.Kept)
	// A bad size is named ahead of the lack of a slot.
	for _, size := range bad {
		put(t, p, packet(1, size), api.BadSize)
	}
	put(t, p, packet(3, 1), api.NoSlot)
}

func TestSlotIsNamedAheadOfRoom(t *testing.T) { // P8.1
	p := pool.New(1, 10)
	put(t, p, packet(1, 11), api.NoRoom)
	put(t, p, packet(2, 10), api.Kept)
	put(t, p, packet(3, 1), api.NoSlot)
}

func TestRoom(t *testing.T) { // P8.1
	p := pool.New(10, 0)
	put(t, p, packet(1, 1), api.NoRoom)
	p = pool.New(10, 1)
	put(t, p, packet(1, 2), api.NoRoom)
	put(t, p, packet(2, 1), api.Kept)
	put(t, p, packet(3, 1), api.NoRoom)
}

func TestWholeCapacity(t *testing.T) { // P8.1, P8.3
	p := pool.New(api.MaxSlots, api.MaxRoom)
	for seq := range api.MaxRoom / api.MaxPacket {
		put(t, p, packet(seq, api.MaxPacket), api.Kept)
	}
	put(t, p, packet(0, 1), api.NoRoom)
	p = pool.New(api.MaxSlots, api.MaxRoom)
	for seq := range api.MaxSlots {
		put(t, p, packet(seq, 1), api.Kept)
	}
	put(t, p, packet(0, 1), api.NoSlot)
}

func TestHandlesAreTheSlabs(t *testing.T) { // P8.1
	p, s := pool.New(3, 100), slab.New(3)
	same := func() slab.Handle {
		t.Helper()
		want, _ := s.Take()
		h := put(t, p, packet(1, 10), api.Kept)
		if h != want {
			t.Errorf("Put returns %v, want %v", h, want)
		}
		return h
	}
	// A packet that is not kept takes no slot.
	put(t, p, packet(9, 101), api.NoRoom)
	put(t, p, packet(9, 0), api.BadSize)
	a, b := same(), same()
	same()
	put(t, p, packet(9, 1), api.NoSlot)
	for _, h := range []slab.Handle{a, b} {
		p.Free(h)
		s.Give(h)
	}
	same()
	same()
}

func TestGetAndFree(t *testing.T) { // P8.2, P8.3
	p := pool.New(4, 1000)
	x, y := packet(7, 100), packet(8, 30)
	a := put(t, p, x, api.Kept)
	b := put(t, p, y, api.Kept)
	has(t, p, a, x)
	has(t, p, b, y)
	holds(t, p, 2, 130)
	if got, ok := p.Free(a); got != x || !ok {
		t.Errorf("Free(%v) = %v, %t", a, got, ok)
	}
	holds(t, p, 1, 30)
	lacks(t, p, a)
	has(t, p, b, y)
	z := packet(9, 5)
	c := put(t, p, z, api.Kept)
	if c.Slot != a.Slot || c == a {
		t.Errorf("the slot of %v is not taken again by %v", a, c)
	}
	lacks(t, p, a)
	has(t, p, c, z)
	for _, h := range []slab.Handle{{Slot: -1}, {Slot: 2}, {Slot: 4}, {Slot: math.MaxInt}, {Slot: b.Slot, Turn: b.Turn + 1}, {Slot: b.Slot, Turn: -1}} {
		lacks(t, p, h)
	}
	holds(t, p, 2, 35)
}

func TestFreedRoomIsUsedAgain(t *testing.T) { // P8.1, P8.2
	p := pool.New(1, 50)
	for seq := range 10 {
		h := put(t, p, packet(seq, 50), api.Kept)
		put(t, p, packet(99, 50), api.NoSlot)
		p.Free(h)
		holds(t, p, 0, 0)
	}
}

func TestCopy(t *testing.T) { // P8.2
	p := pool.New(3, 100)
	a := put(t, p, packet(1, 40), api.Kept)
	b := put(t, p, packet(2, 20), api.Kept)
	q := p.Copy()
	holds(t, q, 2, 60)
	has(t, q, a, packet(1, 40))
	has(t, q, b, packet(2, 20))
	p.Free(a)
	q.Free(b)
	c := put(t, q, packet(3, 60), api.Kept)
	has(t, p, b, packet(2, 20))
	lacks(t, p, a)
	lacks(t, p, c)
	has(t, q, a, packet(1, 40))
	has(t, q, c, packet(3, 60))
	holds(t, p, 1, 20)
	holds(t, q, 2, 100)
	put(t, q, packet(4, 1), api.NoRoom)
	put(t, p, packet(4, 80), api.Kept)
}

func TestCopyTakesTheSameSlots(t *testing.T) { // P8.2
	p := pool.New(4, 100)
	a := put(t, p, packet(1, 1), api.Kept)
	put(t, p, packet(2, 1), api.Kept)
	p.Free(a)
	q := p.Copy()
	for seq := range 3 {
		if x, y := put(t, p, packet(seq, 1), api.Kept), put(t, q, packet(seq, 1), api.Kept); x != y {
			t.Errorf("%v and %v", x, y)
		}
	}
}

func TestNil(t *testing.T) { // P8.2
	var p *pool.Pool
	for _, size := range []int{-1, 0, 1, api.MaxPacket, api.MaxPacket + 1} {
		put(t, p, packet(1, size), api.NoSlot)
	}
	lacks(t, p, slab.Handle{})
	holds(t, p, 0, 0)
	if p.Copy() != nil {
		t.Error("Copy of nil")
	}
}

func TestLimitsAreKept(t *testing.T) { // P8.3
	r := rand.New(rand.NewSource(1))
	for range 20 {
		slots, room := 1+r.Intn(20), r.Intn(20000)
		p := pool.New(slots, room)
		stored := map[slab.Handle]api.Packet{}
		var gone []slab.Handle
		bytes := 0
		for seq := range 500 {
			if r.Intn(2) == 0 {
				x := packet(seq, 1+r.Intn(api.MaxPacket))
				want := api.Kept
				if len(stored) == slots {
					want = api.NoSlot
				} else if bytes+x.Size > room {
					want = api.NoRoom
				}
				if h := put(t, p, x, want); want == api.Kept {
					stored[h] = x
					bytes += x.Size
				}
			} else {
				for h, want := range stored {
					if x, ok := p.Free(h); x != want || !ok {
						t.Fatalf("Free(%v) = %v, %t, want %v", h, x, ok, want)
					}
					delete(stored, h)
					gone = append(gone, h)
					bytes -= want.Size
					break
				}
			}
			holds(t, p, len(stored), bytes)
		}
		for h, x := range stored {
			has(t, p, h, x)
		}
		for _, h := range gone {
			lacks(t, p, h)
		}
	}
}
