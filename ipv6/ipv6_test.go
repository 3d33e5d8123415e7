package ipv6_test

import (
	"math"
	"math/rand"
	"slices"
	"strings"
	"testing"

	"flashlock/api"
	"flashlock/ipv6"
)

const most = 65471

const (
	srcBytes = "\x20\x01\x0d\xb8\x01\x02\x03\x04\x05\x06\x07\x08\x09\x0a\x0b\x0c"
	dstBytes = "\xfe\x80\xa1\xa2\xa3\xa4\xa5\xa6\xb1\xb2\xb3\xb4\xb5\xb6\xb7\xb8"
)

var (
	src = api.Addr{Hi: 0x20010db801020304, Lo: 0x05060708090a0b0c}
	dst = api.Addr{Hi: 0xfe80a1a2a3a4a5a6, Lo: 0xb1b2b3b4b5b6b7b8}
)

var others = []int{math.MinInt, -44, -1, 1, 6, 17, 42, 45, 50, 51, 58, 59, 61, 135, 255, 256, 256 + 43, 256 + 44, 1<<32 + 60, math.MaxInt}

// packet returns a header that tells the body's length and what it begins with, and the body.
func packet(next int, body string) string {
	return head(next, len(body)) + body
}

// head returns a header whose fields all differ, those that tell nothing included.
func head(next, length int) string {
	return "\x6a\xbc\xde\xf1" + string([]byte{byte(length >> 8), byte(length), byte(next)}) + "\x40" + srcBytes + dstBytes
}

// option returns an extension header other than 44 with that many units of eight bytes behind its first ones.
func option(next, units int) string {
	return string([]byte{byte(next), byte(units)}) + strings.Repeat("\x2c", 6+8*units)
}

// fragment returns an extension header 44 whose other bytes are not 0.
func fragment(next, offset, more int) string {
	n := offset<<3 | more
	return string([]byte{byte(next), 0xff, byte(n >> 8), byte(n)}) + "\x11\x22\x33\x44"
}

func parses(t *testing.T, s string, proto, start, size, offset int, more bool) {
	t.Helper()
	want := ipv6.Header{Src: src, Dst: dst, Proto: proto, Start: start, Size: size, Offset: offset, More: more}
	if h, e := ipv6.Parse(s); h != want || e != api.OK {
		t.Errorf("Parse(%.200x) = %+v, %d, want %+v", s, h, e, want)
	}
}

func fails(t *testing.T, s string, want api.Errno) {
	t.Helper()
	if h, e := ipv6.Parse(s); h != (ipv6.Header{}) || e != want {
		t.Errorf("Parse(%.200x) = %+v, %d, want %d", s, h, e, want)
	}
}

// with returns s with the bytes of part from place on.
func with(s string, place int, part ...byte) string {
	return s[:place] + string(part) + s[place+len(part):]
}

// reference parses by places; it returns the starts of the extension headers too.
func reference(s string) (h ipv6.Header, starts []int, e api.Errno) {
	if len(s) < 40 {
		return ipv6.Header{}, nil, api.ErrShort
	}
	if s[0]/16 != 6 {
		return ipv6.Header{}, nil, api.ErrVersion
	}
	size := 40 + int(s[4])*256 + int(s[5])
	if size > len(s) {
		return ipv6.Header{}, nil, api.ErrForm
	}
	number := func(s string) (n uint64) {
		for i := range 8 {
			n = n*256 + uint64(s[i])
		}
		return n
	}
	h = ipv6.Header{
		Src: api.Addr{Hi: number(s[8:]), Lo: number(s[16:])}, Dst: api.Addr{Hi: number(s[24:]), Lo: number(s[32:])},
		Proto: int(s[6]), Start: 40, Size: size,
	}
	for h.Proto == 0 || h.Proto == 43 || h.Proto == 44 || h.Proto == 60 {
		starts = append(starts, h.Start)
		if len(starts) == 9 {
			return ipv6.Header{}, nil, api.ErrLong
		}
		n := 8
		if h.Proto != 44 && h.Start+2 <= size {
			n = 8 * (int(s[h.Start+1]) + 1)
		}
		if h.Start+n > size {
			return ipv6.Header{}, nil, api.ErrHead
		}
		this := h.Proto
		at := s[h.Start:]
		h.Proto, h.Start = int(at[0]), h.Start+n
		if this == 44 {
			h.Offset, h.More = int(at[2])*32+int(at[3])/8, at[3]%2 == 1
			if h.Offset > 0 {
				break
			}
		}
	}
	return h, starts, api.OK
}

func TestFollows(t *testing.T) { // P12.1
	for proto := -300; proto <= 600; proto++ {
		want := proto == 0 || proto == 43 || proto == 44 || proto == 60
		if ipv6.Follows(proto) != want {
			t.Errorf("Follows(%d) = %t", proto, !want)
		}
	}
	for _, proto := range others {
		if ipv6.Follows(proto) {
			t.Errorf("Follows(%d)", proto)
		}
	}
}

func TestParse(t *testing.T) { // P12.1 P12.2
	parses(t, packet(17, ""), 17, 40, 40, 0, false)
	parses(t, packet(17, "abc"), 17, 40, 43, 0, false)
	parses(t, packet(17, "abc")+"ignored", 17, 40, 43, 0, false)
	parses(t, packet(255, "abc"), 255, 40, 43, 0, false)
	parses(t, packet(6, strings.Repeat("x", 256)), 6, 40, 296, 0, false)
	parses(t, packet(6, strings.Repeat("x", 65535)), 6, 40, 65575, 0, false)
	parses(t, packet(6, strings.Repeat("x", 65535))+"y", 6, 40, 65575, 0, false)
	// The traffic class, the flow label and the hop limit tell nothing.
	parses(t, with(packet(17, "abc"), 0, 0x60, 0, 0, 0), 17, 40, 43, 0, false)
	parses(t, with(packet(17, "abc"), 7, 0), 17, 40, 43, 0, false)
	h, e := ipv6.Parse("\x60" + strings.Repeat("\x00", 5) + "\x3b\x00" + strings.Repeat("\xff", 16) + strings.Repeat("\x00", 15) + "\x01")
	if want := (ipv6.Header{Src: api.Addr{Hi: math.MaxUint64, Lo: math.MaxUint64}, Dst: api.Addr{Lo: 1}, Proto: 59, Start: 40, Size: 40}); h != want || e != api.OK {
		t.Errorf("%+v, %d", h, e)
	}
	// Protocols that are known elsewhere as extension headers are none here.
	for _, proto := range []int{50, 51, 59, 135, 139, 140, 253} {
		parses(t, packet(proto, ""), proto, 40, 40, 0, false)
		parses(t, packet(60, option(proto, 0)), proto, 48, 48, 0, false)
	}
}

func TestParseErrors(t *testing.T) { // P12.2
	s := packet(17, "abc")
	for n := range 40 {
		fails(t, s[:n], api.ErrShort)
		fails(t, strings.Repeat("\x00", n), api.ErrShort)
	}
	for v := range 16 {
		if v != 6 {
			fails(t, with(s, 0, byte(v<<4)), api.ErrVersion)
			// It is told ahead of all that is wrong behind it.
			fails(t, with(s, 0, byte(v<<4), 0, 0, 0, 255, 255, 0), api.ErrVersion)
		}
	}
	for _, length := range []int{4, 255, 256, 65535} {
		fails(t, with(s, 4, byte(length>>8), byte(length)), api.ErrForm)
		fails(t, with(s, 4, byte(length>>8), byte(length), 0), api.ErrForm)
	}
	fails(t, s[:42], api.ErrForm)
	fails(t, s[:40], api.ErrForm)
	fails(t, strings.Repeat("\x00", 40), api.ErrVersion)
}

func TestParseFollow(t *testing.T) { // P12.1 P12.2
	for _, proto := range []int{0, 43, 60} {
		for _, units := range []int{0, 1, 2, 127, 128, 255} {
			s := packet(proto, option(6, units))
			parses(t, s, 6, 48+8*units, 48+8*units, 0, false)
			parses(t, packet(proto, option(6, units)+"abc"), 6, 48+8*units, 51+8*units, 0, false)
			// Bytes behind the packet do not make room for an extension header.
			fails(t, head(proto, 7+8*units)+option(6, units), api.ErrHead)
			fails(t, head(proto, 7+8*units)+option(6, units)[:7+8*units], api.ErrHead)
		}
	}
	for n := range 8 {
		for _, proto := range []int{0, 43, 44, 60} {
			fails(t, packet(proto, strings.Repeat("\x00", n)), api.ErrHead)
			fails(t, head(proto, n)+strings.Repeat("\x00", 50), api.ErrHead)
		}
	}
	// Each one is found behind the one before it, whatever its length is.
	parses(t, packet(0, option(43, 2)+option(60, 0)+option(44, 1)+fragment(17, 0, 1)+"abc"), 17, 96, 99, 0, true)
	fails(t, packet(0, option(43, 0)+option(17, 1)[:15]), api.ErrHead)
	fails(t, packet(0, option(44, 0)+fragment(17, 0, 1)[:7]), api.ErrHead)
	parses(t, packet(0, option(1, 0)+option(17, 0)), 1, 48, 56, 0, false)
}

func TestParseFragment(t *testing.T) { // P12.1 P12.2
	for _, offset := range []int{0, 1, 31, 32, 4096, 8191} {
		for more := range 2 {
			parses(t, packet(44, fragment(17, offset, more)+"abc"), 17, 48, 51, offset, more == 1)
			// The two bits between offset and flag tell nothing.
			parses(t, packet(44, fragment(17, offset, more|6)), 17, 48, 48, offset, more == 1)
		}
	}
	// Behind an offset that is not 0 nothing is traversed; what follows need not even be there.
	for _, next := range []int{0, 43, 44, 60} {
		parses(t, packet(44, fragment(next, 1, 0)), next, 48, 48, 1, false)
		parses(t, packet(44, fragment(next, 1, 1)+"abc"), next, 48, 51, 1, true)
		parses(t, packet(44, fragment(next, 8191, 0)+fragment(17, 2, 1)), next, 48, 56, 8191, false)
		fails(t, packet(44, fragment(next, 0, 1)), api.ErrHead)
		fails(t, packet(44, fragment(next, 0, 1)+"abc"), api.ErrHead)
	}
	// The last one of several is told.
	parses(t, packet(44, fragment(44, 0, 1)+fragment(17, 0, 0)), 17, 56, 56, 0, false)
	parses(t, packet(44, fragment(44, 0, 0)+fragment(17, 0, 1)), 17, 56, 56, 0, true)
	parses(t, packet(44, fragment(60, 0, 1)+option(17, 0)), 17, 56, 56, 0, true)
	parses(t, packet(44, fragment(44, 0, 1)+fragment(60, 7, 0)+option(17, 0)), 60, 56, 64, 7, false)
	// Other extension headers have no offset.
	parses(t, packet(60, fragment(17, 5, 1)[:1]+"\x00\xff\xff"+"\x00\x00\x00\x00"), 17, 48, 48, 0, false)
}

func TestParseLong(t *testing.T) { // P12.2
	eight := strings.Repeat(option(60, 0), 7)
	parses(t, packet(60, eight+option(17, 0)), 17, 104, 104, 0, false)
	parses(t, packet(60, eight+option(17, 3)), 17, 128, 128, 0, false)
	// The ninth is too many even if it is not there.
	fails(t, packet(60, eight+option(60, 0)+option(17, 0)), api.ErrLong)
	fails(t, packet(60, eight+option(60, 0)), api.ErrLong)
	fails(t, packet(60, eight+option(44, 0)+fragment(17, 1, 0)), api.ErrLong)
	// Of the eighth, it is its place that is wrong.
	fails(t, packet(60, eight), api.ErrHead)
	fails(t, packet(60, eight+option(60, 1)[:15]), api.ErrHead)
	// An eighth that ends the traversal has no ninth behind it.
	parses(t, packet(60, strings.Repeat(option(60, 0), 6)+option(44, 0)+fragment(60, 1, 0)), 60, 104, 104, 1, false)
	fails(t, packet(60, strings.Repeat(option(60, 0), 6)+option(44, 0)+fragment(60, 0, 0)), api.ErrLong)
}

func TestParseAny(t *testing.T) { // P12.2 P12.4 P6
	rnd := rand.New(rand.NewSource(122))
	seen := map[api.Errno]int{}
	protos := []byte{0, 43, 44, 60, 44, 60, 0, 43, 60, 17}
	for range 100000 {
		b := make([]byte, rnd.Intn(40+rnd.Intn(140)+1))
		rnd.Read(b)
		if len(b) >= 40 {
			// Mostly right, so that all of the errors come up.
			if rnd.Intn(16) > 0 {
				b[0] = 0x60
			}
			if rnd.Intn(16) > 0 {
				b[4], b[5] = 0, byte(rnd.Intn(len(b)-39))
			}
			b[6] = protos[rnd.Intn(len(protos))]
			for at := 40; at+8 <= len(b); at += 8 {
				b[at], b[at+1] = protos[rnd.Intn(len(protos))], byte(rnd.Intn(8)/7)
				b[at+2], b[at+3] = 0, byte(rnd.Intn(10))
			}
		}
		want, starts, wrong := reference(string(b))
		seen[wrong]++
		if h, e := ipv6.Parse(string(b)); h != want || e != wrong {
			t.Fatalf("Parse(%x) = %+v, %d, want %+v, %d", b, h, e, want, wrong)
		}
		if !slices.IsSorted(starts) || len(slices.Compact(starts)) != len(starts) {
			t.Fatalf("%x: extension headers at %v", b, starts)
		}
	}
	for _, e := range []api.Errno{api.OK, api.ErrShort, api.ErrVersion, api.ErrForm, api.ErrLong, api.ErrHead} {
		if seen[e] < 100 {
			t.Errorf("error %d came up %d times", e, seen[e])
		}
	}
}

func made(t *testing.T, h ipv6.Header, follow []int, payload, want string) {
	t.Helper()
	if got := ipv6.Make(h, follow, payload); got != want {
		t.Errorf("Make(%+v, %v, %.20q) = %.200x, want %.200x", h, follow, payload, got, want)
	}
}

// bare returns a header that tells nothing but this, and the addresses.
func bare(next, length int) string {
	return "\x60\x00\x00\x00" + string([]byte{byte(length >> 8), byte(length), byte(next), 0}) + srcBytes + dstBytes
}

func TestMake(t *testing.T) { // P12.3
	h := ipv6.Header{Src: src, Dst: dst, Proto: 17, Offset: 5, More: true}
	made(t, h, nil, "", bare(17, 0))
	made(t, h, []int{}, "abc", bare(17, 3)+"abc")
	made(t, ipv6.Header{}, nil, "", "\x60"+strings.Repeat("\x00", 39))
	// Start and Size are not taken from the header.
	made(t, ipv6.Header{Src: src, Dst: dst, Proto: 17, Start: 9, Size: 99}, nil, "abc", bare(17, 3)+"abc")
	made(t, h, []int{0}, "abc", bare(0, 11)+"\x11\x00\x00\x00\x00\x00\x00\x00abc")
	made(t, h, []int{44}, "abc", bare(44, 11)+"\x11\x00\x00\x29\x00\x00\x00\x00abc")
	made(t, h, []int{0, 44, 43, 60}, "abc", bare(0, 35)+"\x2c\x00\x00\x00\x00\x00\x00\x00\x2b\x00\x00\x29\x00\x00\x00\x00\x3c\x00\x00\x00\x00\x00\x00\x00\x11\x00\x00\x00\x00\x00\x00\x00abc")
	made(t, h, []int{44, 44}, "", bare(44, 16)+"\x2c\x00\x00\x29\x00\x00\x00\x00\x11\x00\x00\x29\x00\x00\x00\x00")
	made(t, h, nil, strings.Repeat("x", 256), bare(17, 256)+strings.Repeat("x", 256))
	h.More = false
	made(t, h, []int{44}, "", bare(44, 8)+"\x11\x00\x00\x28\x00\x00\x00\x00")
	// The example.
	s := ipv6.Make(ipv6.Header{Proto: 17}, []int{0, 44}, "abc")
	if p, e := ipv6.Parse(s); len(s) != 59 || p != (ipv6.Header{Proto: 17, Start: 56, Size: 59}) || e != api.OK {
		t.Errorf("the example has %d bytes: %+v, %d", len(s), p, e)
	}
}

func TestMakeLowBits(t *testing.T) { // P12.3
	offsets := map[int]string{0: "\x00\x00", 1: "\x00\x08", 8191: "\xff\xf8", -1: "\xff\xf8", 8192: "\x00\x00", 8192 + 4096: "\x80\x00", math.MinInt: "\x00\x00", math.MaxInt: "\xff\xf8"}
	for offset, want := range offsets {
		made(t, ipv6.Header{Src: src, Dst: dst, Offset: offset, Proto: 6}, []int{44}, "", bare(44, 8)+"\x06\x00"+want+"\x00\x00\x00\x00")
	}
	for _, proto := range []int{0, 17, 44, 255, 256, 256 + 17, -1, -256, math.MinInt, math.MaxInt} {
		h := ipv6.Header{Src: src, Dst: dst, Proto: proto}
		made(t, h, nil, "abc", bare(proto&255, 3)+"abc")
		made(t, h, []int{60}, "", bare(60, 8)+string([]byte{byte(proto & 255)})+"\x00\x00\x00\x00\x00\x00\x00")
	}
}

func TestMakeOthers(t *testing.T) { // P12.3
	h := ipv6.Header{Src: src, Dst: dst, Proto: 17, Offset: 5, More: true}
	for _, proto := range others {
		made(t, h, []int{proto}, "abc", ipv6.Make(h, nil, "abc"))
		made(t, h, []int{proto, 0, proto, 44, proto}, "abc", ipv6.Make(h, []int{0, 44}, "abc"))
	}
}

func TestMakeLong(t *testing.T) { // P12.3
	h := ipv6.Header{Src: src, Dst: dst, Proto: 17}
	full := strings.Repeat("x", most)
	made(t, h, nil, full, bare(17, most)+full)
	made(t, h, nil, full+"x", "")
	made(t, h, nil, full+full, "")
	eight := slices.Repeat([]int{60}, 8)
	s := ipv6.Make(h, eight, full)
	if len(s) != 65575 || s[4:6] != "\xff\xff" || !strings.HasSuffix(s, full) {
		t.Errorf("the longest packet has %d bytes", len(s))
	}
	parses(t, s, 17, 104, 65575, 0, false)
	made(t, h, eight, full+"x", "")
	made(t, h, append(slices.Clone(eight), 60), "", "")
	// Those that are ignored count.
	made(t, h, append(slices.Clone(eight), 17), "", "")
	made(t, h, slices.Repeat([]int{17}, 9), "", "")
	made(t, h, slices.Repeat([]int{17}, 8), "abc", bare(17, 3)+"abc")
	made(t, h, slices.Repeat([]int{0}, 1000), "", "")
}

func TestMakeKeeps(t *testing.T) { // P12.3
	all := []int{0, 17, 44, 60, 43}
	ipv6.Make(ipv6.Header{Proto: 6}, all[:3], "abc")
	if !slices.Equal(all, []int{0, 17, 44, 60, 43}) {
		t.Errorf("Make changed its argument to %v", all)
	}
}

func TestParseMake(t *testing.T) { // P12.4
	rnd := rand.New(rand.NewSource(124))
	known := []int{0, 43, 44, 60, 17, -1}
	for range 20000 {
		h := ipv6.Header{
			Src: api.Addr{Hi: rnd.Uint64(), Lo: rnd.Uint64()}, Dst: api.Addr{Hi: rnd.Uint64(), Lo: rnd.Uint64()},
			Proto: rnd.Intn(256), Offset: rnd.Intn(8192), More: rnd.Intn(2) == 0,
		}
		if ipv6.Follows(h.Proto) {
			continue
		}
		var follow []int
		for range rnd.Intn(9) {
			follow = append(follow, known[rnd.Intn(len(known))])
		}
		at := slices.Index(follow, 44)
		if at >= 0 && rnd.Intn(2) == 0 {
			h.Offset = 0
		} else if at >= 0 {
			// Nothing is read behind a fragment header with an offset: it is the last one.
			follow = follow[:at+1]
		}
		payload := strings.Repeat("\x2c", rnd.Intn(40))
		s := ipv6.Make(h, follow, payload)
		headers := len(slices.DeleteFunc(slices.Clone(follow), func(p int) bool { return !ipv6.Follows(p) }))
		h.Start = 40 + 8*headers
		h.Size = h.Start + len(payload)
		if at < 0 {
			h.Offset, h.More = 0, false
		}
		if got, e := ipv6.Parse(s); got != h || e != api.OK {
			t.Fatalf("Parse of Make with %v = %+v, %d, want %+v", follow, got, e, h)
		}
		if s[h.Start:] != payload {
			t.Fatalf("the payload does not begin at Start")
		}
	}
}
