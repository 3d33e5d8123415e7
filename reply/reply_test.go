package reply_test

import (
	"math"
	"math/rand"
	"strings"
	"testing"

	"flashlock/api"
	"flashlock/octets"
	"flashlock/reply"
)

const bound = 1 << 31

// full returns a reply in which every field differs from all others.
func full() api.Reply {
	return api.Reply{Op: 7, Err: api.ErrSum, Version: 300, Count: -2, Sum: 0xf1020304, Stat: api.Stat{Got: 1, GotBytes: 2, Sent: 3, SentBytes: 4, Lost: 5, Waiting: 6}}
}

// encoded is the encoding of full, byte by byte.
const encoded = "\x07\x18\xd8\x04\x03\xf1\x02\x03\x04\x02\x04\x06\x08\x0a\x0c"

func put(t *testing.T, r api.Reply, want string) {
	t.Helper()
	if got := reply.Put(r); got != want {
		t.Errorf("Put(%+v) = %x, want %x", r, got, want)
	}
}

func get(t *testing.T, s string, want api.Reply, e api.Errno) {
	t.Helper()
	if got, f := reply.Get(s); got != want || f != e {
		t.Errorf("Get(%x) = %+v, %d, want %+v, %d", s, got, f, want, e)
	}
}

func shift(t *testing.T, s string, by int, want string) {
	t.Helper()
	if got := reply.Shift(s, by); got != want {
		t.Errorf("Shift(%x, %d) = %x, want %x", s, by, got, want)
	}
}

// changes set one field of a reply each.
var changes = []func(r *api.Reply, n int){
	func(r *api.Reply, n int) { r.Version = n },
	func(r *api.Reply, n int) { r.Count = n },
	func(r *api.Reply, n int) { r.Stat.Got = n },
	func(r *api.Reply, n int) { r.Stat.GotBytes = n },
	func(r *api.Reply, n int) { r.Stat.Sent = n },
	func(r *api.Reply, n int) { r.Stat.SentBytes = n },
	func(r *api.Reply, n int) { r.Stat.Lost = n },
	func(r *api.Reply, n int) { r.Stat.Waiting = n },
}

func TestPut(t *testing.T) { // P39.1
	put(t, api.Reply{}, strings.Repeat("\x00", 14))
	put(t, full(), encoded)
	put(t, api.Reply{Op: 255, Err: 255}, "\xff\xff"+strings.Repeat("\x00", 12))
	put(t, api.Reply{Op: 256 + 3, Err: 512 + 4}, "\x03\x04"+strings.Repeat("\x00", 12))
	put(t, api.Reply{Op: -1, Err: -2}, "\xff\xfe"+strings.Repeat("\x00", 12))
	put(t, api.Reply{Op: math.MinInt, Err: math.MaxInt}, "\x00\xff"+strings.Repeat("\x00", 12))
	put(t, api.Reply{Sum: math.MaxUint32}, "\x00\x00\x00\x00\xff\xff\xff\xff"+strings.Repeat("\x00", 6))
	// Each number stands in its place, whatever its length is.
	for i, change := range changes {
		for _, n := range []int{math.MinInt, -65, -1, 1, 63, 64, 300, math.MaxInt} {
			r := api.Reply{}
			change(&r, n)
			place := i + 2
			if i >= 2 {
				place += 4
			}
			put(t, r, strings.Repeat("\x00", place)+string(octets.PutVar(nil, n))+strings.Repeat("\x00", 13-place))
		}
	}
}

func TestBad(t *testing.T) { // P39.1
	for e := api.Errno(-3); e < 300; e++ {
		if got := reply.Bad(e); got != "\x00"+string([]byte{byte(e)})+strings.Repeat("\x00", 12) {
			t.Errorf("Bad(%d) = %x", e, got)
		}
	}
}

func TestGet(t *testing.T) { // P39.2
	get(t, strings.Repeat("\x00", 14), api.Reply{}, api.OK)
	get(t, encoded, full(), api.OK)
	get(t, "\xff\xff"+strings.Repeat("\x00", 12), api.Reply{Op: 255, Err: 255}, api.OK)
	for n := range len(encoded) {
		get(t, encoded[:n], api.Reply{}, api.ErrShort)
	}
	for _, more := range []string{"\x00", "\xff", encoded} {
		get(t, encoded+more, api.Reply{}, api.ErrLong)
	}
}

func TestGetForm(t *testing.T) { // P39.2
	long := strings.Repeat("\x80", 10)
	big := strings.Repeat("\x80", 9) + "\x02"
	for _, place := range []int{2, 4, 9, 10, 11, 12, 13, 14} {
		for _, bad := range []string{long, big, "\x80\x00", "\x85\x80\x00"} {
			get(t, encoded[:place]+bad+encoded[place+1:], api.Reply{}, api.ErrForm)
		}
	}
	// The first error counts.
	get(t, "\x00\x00"+long, api.Reply{}, api.ErrForm)
	get(t, "\x00\x00\x80", api.Reply{}, api.ErrShort)
	get(t, encoded[:14]+"\x80\x00"+"more", api.Reply{}, api.ErrForm)
	get(t, encoded[:14]+long[:9], api.Reply{}, api.ErrShort)
}

func TestShift(t *testing.T) { // P39.2
	for _, version := range []int{1, 2, 63, 64, 300, bound - 1, bound} {
		for _, by := range []int{-bound, -bound + 1, -301, -64, -2, -1, 0, 1, 2, 64, bound - 1, bound} {
			r, moved := full(), full()
			r.Version, moved.Version = version, version+by
			shift(t, reply.Put(r), by, reply.Put(moved))
		}
		for _, by := range []int{math.MinInt, -bound - 1, bound + 1, math.MaxInt} {
			r := full()
			r.Version = version
			shift(t, reply.Put(r), by, reply.Put(r))
		}
	}
	for _, version := range []int{math.MinInt, -bound - 1, -bound, -1, 0, bound + 1, math.MaxInt} {
		for _, by := range []int{math.MinInt, -bound, -1, 0, 1, bound, math.MaxInt} {
			r := full()
			r.Version = version
			shift(t, reply.Put(r), by, reply.Put(r))
		}
	}
	for _, s := range []string{"", "\x00", "abc", encoded + "\x00", encoded[:14], encoded[:2] + "\x82\x00" + encoded[4:]} {
		shift(t, s, 2, s)
	}
}

func TestInverse(t *testing.T) { // P39.3
	rnd := rand.New(rand.NewSource(39))
	for range 4000 {
		r := api.Reply{Op: rnd.Intn(256), Err: api.Errno(rnd.Intn(256)), Sum: rnd.Uint32()}
		for _, change := range changes {
			change(&r, int(rnd.Uint64())>>rnd.Intn(64))
		}
		s := reply.Put(r)
		get(t, s, r, api.OK)
		// What is read is written as it was.
		b := []byte(s)
		for range 1 + rnd.Intn(3) {
			b[rnd.Intn(len(b))] = byte(rnd.Intn(256))
		}
		if x, e := reply.Get(string(b)); e == api.OK {
			put(t, x, string(b))
		}
	}
}
