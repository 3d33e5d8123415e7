package flow_test

import (
	"math"
	"math/rand"
	"slices"
	"strings"
	"testing"

	"flashlock/api"
	"flashlock/flow"
)

const (
	src6Bytes = "\x20\x01\x0d\xb8\x01\x02\x03\x04\x05\x06\x07\x08\x09\x0a\x0b\x0c"
	dst6Bytes = "\xfe\x80\xa1\xa2\xa3\xa4\xa5\xa6\xb1\xb2\xb3\xb4\xb5\xb6\xb7\xb8"
)

var (
	src4 = api.Addr{Lo: 0xc0a8014d}
	dst4 = api.Addr{Lo: 0x0a010203}
	src6 = api.Addr{Hi: 0x20010db801020304, Lo: 0x05060708090a0b0c}
	dst6 = api.Addr{Hi: 0xfe80a1a2a3a4a5a6, Lo: 0xb1b2b3b4b5b6b7b8}
	full = api.Addr{Hi: math.MaxUint64, Lo: math.MaxUint64}
)

// Segments whose ports are 0x0102 and 0x0304, and which tell nothing but their shortest headers.
const (
	tcp = "\x01\x02\x03\x04\x05\x06\x07\x08\x09\x0a\x0b\x0c\x50\x0e\x0f\x10\x11\x12\x13\x14"
	udp = "\x01\x02\x03\x04\x00\x08\x09\x0a"
)

func key4(proto, src, dst int) api.Key {
	return api.Key{Version: 4, Src: src4, Dst: dst4, Proto: proto, SrcPort: src, DstPort: dst}
}

func key6(proto, src, dst int) api.Key {
	return api.Key{Version: 6, Src: src6, Dst: dst6, Proto: proto, SrcPort: src, DstPort: dst}
}

// words adds up the big-endian numbers of 16 bits in s, as the checksum does.
func words(s string) int {
	sum := 0
	for i := 0; i < len(s); i += 2 {
		sum += int(s[i])*256 + int(s[i+1])
	}
	for sum > 65535 {
		sum = sum/65536 + sum%65536
	}
	return sum
}

// summed returns a packet of version 4 with the checksum of its header, which has that many bytes.
func summed(s string, head int) string {
	n := 65535 - words(s[:10]+"\x00\x00"+s[12:head])
	return with(s, 10, byte(n>>8), byte(n))
}

// packet4 returns a packet of version 4; place is its fragment offset with its flag.
func packet4(proto, place int, options, body string) string {
	head := 20 + len(options)
	size := head + len(body)
	s := string([]byte{byte(0x40 + head/4), 0xaa, byte(size >> 8), byte(size), 0x12, 0x34, byte(place >> 8), byte(place), 0x40, byte(proto), 0, 0}) +
		"\xc0\xa8\x01\x4d\x0a\x01\x02\x03" + options + body
	return summed(s, head)
}

// packet6 returns a packet of version 6 whose body begins with the protocol next.
func packet6(next int, body string) string {
	return "\x6a\xbc\xde\xf1" + string([]byte{byte(len(body) >> 8), byte(len(body)), byte(next), 0x40}) + src6Bytes + dst6Bytes + body
}

// option returns an extension header other than 44 with that many units of eight bytes behind its first ones.
func option(next, units int) string {
	return string([]byte{byte(next), byte(units)}) + strings.Repeat("\x2c", 6+8*units)
}

// fragment returns an extension header 44.
func fragment(next, offset, more int) string {
	n := offset<<3 | more
	return string([]byte{byte(next), 0xff, byte(n >> 8), byte(n)}) + "\x11\x22\x33\x44"
}

// with returns s with the bytes of part from place on.
func with(s string, place int, part ...byte) string {
	return s[:place] + string(part) + s[place+len(part):]
}

func of(t *testing.T, raw string, want api.Key) {
	t.Helper()
	if k, e := flow.Of(raw); k != want || e != api.OK {
		t.Errorf("Of(%.200x) = %+v, %d, want %+v", raw, k, e, want)
	}
}

func fails(t *testing.T, raw string, want api.Errno) {
	t.Helper()
	if k, e := flow.Of(raw); k != (api.Key{}) || e != want {
		t.Errorf("Of(%.200x) = %+v, %d, want %d", raw, k, e, want)
	}
}

func TestOf(t *testing.T) { // P14.1
	of(t, packet4(6, 0, "", tcp), key4(6, 0x0102, 0x0304))
	of(t, packet4(17, 0, "", udp+"abc"), key4(17, 0x0102, 0x0304))
	of(t, packet6(6, tcp+"abc"), key6(6, 0x0102, 0x0304))
	of(t, packet6(17, udp), key6(17, 0x0102, 0x0304))
	of(t, packet4(17, 0, "", with(udp, 0, 255, 255, 0, 0)), key4(17, 65535, 0))
	of(t, packet6(17, with(udp, 0, 0, 0, 255, 255)), key6(17, 0, 65535))
	// Behind options and extension headers the segment begins where Start says.
	of(t, packet4(6, 0, "abcd", tcp), key4(6, 0x0102, 0x0304))
	of(t, packet4(17, 0, strings.Repeat("x", 40), udp), key4(17, 0x0102, 0x0304))
	of(t, packet6(0, option(43, 2)+option(60, 0)+option(17, 1)+udp), key6(17, 0x0102, 0x0304))
	// What stands behind the packet is ignored.
	of(t, packet4(17, 0, "", udp)+"abc", key4(17, 0x0102, 0x0304))
	of(t, packet6(6, tcp)+"abc", key6(6, 0x0102, 0x0304))
	// The flag that forbids fragments, and the one that is reserved, tell nothing.
	of(t, packet4(17, 0x4000, "", udp), key4(17, 0x0102, 0x0304))
	of(t, packet4(17, 0x8000, "", udp), key4(17, 0x0102, 0x0304))
	// The longest packets.
	of(t, packet4(17, 0, "", udp+strings.Repeat("x", 65507)), key4(17, 0x0102, 0x0304))
	of(t, packet6(17, udp+strings.Repeat("x", 65527)), key6(17, 0x0102, 0x0304))
}

func TestOfOtherProtocols(t *testing.T) { // P14.1
	for proto := range 256 {
		if proto == 6 || proto == 17 {
			continue
		}
		for _, body := range []string{"", "abc", tcp, udp} {
			of(t, packet4(proto, 0, "", body), key4(proto, 0, 0))
			if proto != 0 && proto != 43 && proto != 44 && proto != 60 {
				of(t, packet6(proto, body), key6(proto, 0, 0))
				of(t, packet6(60, option(proto, 0)+body), key6(proto, 0, 0))
			}
		}
	}
}

func TestOfVersion(t *testing.T) { // P14.1
	fails(t, "", api.ErrShort)
	for first := range 256 {
		if first>>4 == 4 || first>>4 == 6 {
			// What follows is missing; that is what Parse says.
			fails(t, string([]byte{byte(first)}), api.ErrShort)
			continue
		}
		for _, n := range []int{0, 1, 18, 19, 20, 39, 40, 2047, 2048} {
			fails(t, string([]byte{byte(first)})+strings.Repeat("\x00", n), api.ErrVersion)
		}
		fails(t, with(packet4(17, 0, "", udp), 0, byte(first)), api.ErrVersion)
		fails(t, with(packet6(17, udp), 0, byte(first)), api.ErrVersion)
	}
	fails(t, strings.Repeat("\x00", 40), api.ErrVersion)
}

func TestOfParseErrors(t *testing.T) { // P14.1
	s := packet4(17, 0, "", udp)
	for n := 1; n < 20; n++ {
		fails(t, s[:n], api.ErrShort)
	}
	for _, low := range []byte{0, 1, 4, 8, 15} {
		fails(t, summed(with(s, 0, 0x40+low), 20), api.ErrHead)
	}
	for _, size := range []byte{0, 19, 29, 255} {
		fails(t, summed(with(s, 3, size), 20), api.ErrForm)
	}
	fails(t, s[:27], api.ErrForm)
	fails(t, with(s, 10, s[10]^1), api.ErrSum)
	fails(t, with(s, 19, s[19]^128), api.ErrSum)
	s = packet6(17, udp)
	for n := 1; n < 40; n++ {
		fails(t, s[:n], api.ErrShort)
	}
	fails(t, s[:47], api.ErrForm)
	fails(t, with(s, 4, 0, 9), api.ErrForm)
	fails(t, with(s, 4, 255, 255), api.ErrForm)
	fails(t, packet6(60, option(17, 1)[:15]), api.ErrHead)
	fails(t, packet6(44, fragment(17, 0, 0)[:7]), api.ErrHead)
	fails(t, packet6(60, strings.Repeat(option(60, 0), 8)+option(17, 0)+udp), api.ErrLong)
	of(t, packet6(60, strings.Repeat(option(60, 0), 7)+option(17, 0)+udp), key6(17, 0x0102, 0x0304))
}

// both returns the packets of both versions with that segment, and with more behind the packet.
func both(proto int, segment string) []string {
	return []string{
		packet4(proto, 0, "", segment),
		packet4(proto, 0, "", segment) + strings.Repeat("x", 80),
		packet4(proto, 0, strings.Repeat("x", 40), segment),
		packet6(proto, segment),
		packet6(proto, segment) + strings.Repeat("x", 80),
		packet6(44, fragment(proto, 0, 0)+segment),
		packet6(60, option(43, 3)+option(proto, 0)+segment) + strings.Repeat("x", 80),
	}
}

func TestOfPortErrors(t *testing.T) { // P14.1
	each := func(proto int, segment string, want api.Errno) {
		t.Helper()
		for _, raw := range both(proto, segment) {
			fails(t, raw, want)
		}
	}
	for n := range 20 {
		each(6, tcp[:n], api.ErrShort)
	}
	for n := range 8 {
		each(17, udp[:n], api.ErrShort)
	}
	for _, told := range []byte{0, 0x40, 0x4f, 0x60, 0xf0} {
		each(6, with(tcp, 12, told), api.ErrHead)
	}
	each(6, with(tcp+"abc", 12, 0x60), api.ErrHead)
	for _, told := range []byte{0, 7, 9, 255} {
		each(17, with(udp, 5, told), api.ErrForm)
	}
	each(17, with(udp+"abc", 5, 12), api.ErrForm)
	each(17, with(udp, 4, 255, 255), api.ErrForm)
	// Lengths that the segment has room for.
	for _, raw := range both(6, with(tcp+"abcd", 12, 0x60)) {
		if k, e := flow.Of(raw); e != api.OK || k.SrcPort != 0x0102 || k.DstPort != 0x0304 {
			t.Errorf("Of(%x) = %+v, %d", raw, k, e)
		}
	}
	for _, raw := range both(17, with(udp+"abc", 5, 11)) {
		if k, e := flow.Of(raw); e != api.OK || k.SrcPort != 0x0102 || k.DstPort != 0x0304 {
			t.Errorf("Of(%x) = %+v, %d", raw, k, e)
		}
	}
}

func TestOfFirstError(t *testing.T) { // P14.1
	// The headers are examined ahead of the ports.
	s := packet4(17, 0, "", udp[:7])
	fails(t, s, api.ErrShort)
	fails(t, with(s, 11, s[11]^1), api.ErrSum)
	fails(t, packet4(6, 0, "", with(tcp, 12, 0))[:30], api.ErrForm)
	fails(t, packet6(6, with(tcp, 12, 0))[:50], api.ErrForm)
}

func TestOfFragments(t *testing.T) { // P14.1
	for _, proto := range []int{6, 17, 1} {
		for _, offset := range []int{0, 1, 255, 256, 4096, 8191} {
			for more := range 2 {
				if offset == 0 && more == 0 {
					continue
				}
				// What would be wrong with the ports is not looked at.
				for _, body := range []string{"", "abc", udp, tcp, with(udp, 4, 0, 0), with(tcp, 12, 0)} {
					of(t, packet4(proto, more<<13|offset, "", body), key4(proto, 0, 0))
					of(t, packet6(44, fragment(proto, offset, more)+body), key6(proto, 0, 0))
				}
			}
		}
	}
	// A whole packet in a fragment has ports.
	of(t, packet6(44, fragment(17, 0, 0)+udp), key6(17, 0x0102, 0x0304))
	of(t, packet6(44, fragment(44, 0, 1)+fragment(17, 0, 0)+udp), key6(17, 0x0102, 0x0304))
	of(t, packet6(44, fragment(60, 0, 1)+option(17, 0)+udp), key6(17, 0, 0))
	// Behind an offset, an extension header is what the fragment is of.
	for _, next := range []int{0, 43, 44, 60} {
		of(t, packet6(44, fragment(next, 1, 0)+udp), key6(next, 0, 0))
	}
	// A fragment is parsed like other packets.
	s := packet4(17, 1, "", udp)
	fails(t, with(s, 11, s[11]^1), api.ErrSum)
	fails(t, packet6(44, fragment(60, 0, 1)+"abc"), api.ErrHead)
}

// number returns the big-endian number of n bytes at a place.
func number(s string, at, n int) (u uint64) {
	for i := range n {
		u = u*256 + uint64(s[at+i])
	}
	return u
}

// reference finds the key of a packet by places.
func reference(s string) (api.Key, api.Errno) {
	if s == "" {
		return api.Key{}, api.ErrShort
	}
	k := api.Key{Version: int(s[0]) / 16}
	start, size, part := 0, 0, false
	switch k.Version {
	case 4:
		if len(s) < 20 {
			return api.Key{}, api.ErrShort
		}
		start, size, part = int(s[0])%16*4, int(number(s, 2, 2)), number(s, 6, 2)&0x3fff != 0
		if start < 20 || start > len(s) {
			return api.Key{}, api.ErrHead
		}
		if size < start || size > len(s) {
			return api.Key{}, api.ErrForm
		}
		if words(s[:start]) != 65535 {
			return api.Key{}, api.ErrSum
		}
		k.Proto, k.Src.Lo, k.Dst.Lo = int(s[9]), number(s, 12, 4), number(s, 16, 4)
	case 6:
		if len(s) < 40 {
			return api.Key{}, api.ErrShort
		}
		start, size = 40, 40+int(number(s, 4, 2))
		if size > len(s) {
			return api.Key{}, api.ErrForm
		}
		k.Proto = int(s[6])
		k.Src, k.Dst = api.Addr{Hi: number(s, 8, 8), Lo: number(s, 16, 8)}, api.Addr{Hi: number(s, 24, 8), Lo: number(s, 32, 8)}
		offset := uint64(0)
		for seen := 0; offset == 0 && slices.Contains([]int{0, 43, 44, 60}, k.Proto); seen++ {
			if seen == 8 {
				return api.Key{}, api.ErrLong
			}
			n := 8
			if k.Proto != 44 && start+2 <= size {
				n = 8 + 8*int(s[start+1])
			}
			if start+n > size {
				return api.Key{}, api.ErrHead
			}
			if k.Proto == 44 {
				offset = number(s, start+2, 2) / 8
				part = offset > 0 || s[start+3]%2 == 1
			}
			k.Proto, start = int(s[start]), start+n
		}
	default:
		return api.Key{}, api.ErrVersion
	}
	return referencePorts(k, s[start:size], part)
}

func referencePorts(k api.Key, s string, part bool) (api.Key, api.Errno) {
	least := map[int]int{6: 20, 17: 8}[k.Proto]
	if part || least == 0 {
		return k, api.OK
	}
	if len(s) < least {
		return api.Key{}, api.ErrShort
	}
	told, wrong := int(number(s, 4, 2)), api.ErrForm
	if k.Proto == 6 {
		told, wrong = int(s[12])/16*4, api.ErrHead
	}
	if told < least || told > len(s) {
		return api.Key{}, wrong
	}
	k.SrcPort, k.DstPort = int(number(s, 0, 2)), int(number(s, 2, 2))
	return k, api.OK
}

// anyPacket returns a packet that is mostly right.
func anyPacket(rnd *rand.Rand) string {
	protos := []int{6, 17, 6, 17, 1}
	proto := protos[rnd.Intn(len(protos))]
	body := map[int]string{6: tcp, 17: udp}[proto] + strings.Repeat("\x08", rnd.Intn(30))
	if rnd.Intn(4) == 0 {
		body = body[:rnd.Intn(len(body)+1)]
	}
	if rnd.Intn(2) == 0 {
		return packet4(proto, rnd.Intn(2)*rnd.Intn(1<<16), strings.Repeat("\x01", 4*rnd.Intn(11)), body)
	}
	next := proto
	for range rnd.Intn(2) * rnd.Intn(11) {
		if rnd.Intn(3) == 0 {
			body, next = fragment(next, rnd.Intn(8)/7*rnd.Intn(8192), rnd.Intn(8)/7)+body, 44
		} else {
			body, next = option(next, rnd.Intn(3))+body, []int{0, 43, 60}[rnd.Intn(3)]
		}
	}
	return packet6(next, body)
}

func TestOfAny(t *testing.T) { // P14.1 P6
	rnd := rand.New(rand.NewSource(141))
	seen := map[api.Errno]int{}
	for range 100000 {
		b := []byte(anyPacket(rnd))
		for range rnd.Intn(3) {
			b[rnd.Intn(len(b))] ^= 1 << rnd.Intn(8)
		}
		if b[0]>>4 == 4 && len(b) >= 20 && rnd.Intn(2) == 0 {
			if head := int(b[0]&15) * 4; head >= 20 && head <= len(b) {
				b = []byte(summed(string(b), head))
			}
		}
		if rnd.Intn(8) == 0 {
			b = b[:rnd.Intn(len(b)+1)]
		}
		want, wrong := reference(string(b))
		seen[wrong]++
		if k, e := flow.Of(string(b)); k != want || e != wrong {
			t.Fatalf("Of(%x) = %+v, %d, want %+v, %d", b, k, e, want, wrong)
		}
	}
	for _, e := range []api.Errno{api.OK, api.ErrShort, api.ErrVersion, api.ErrForm, api.ErrLong, api.ErrHead, api.ErrSum} {
		if seen[e] < 100 {
			t.Errorf("error %d came up %d times", e, seen[e])
		}
	}
}

func TestOfNoise(t *testing.T) { // P6
	rnd := rand.New(rand.NewSource(6))
	for range 20000 {
		b := make([]byte, rnd.Intn(120))
		rnd.Read(b)
		want, wrong := reference(string(b))
		if k, e := flow.Of(string(b)); k != want || e != wrong {
			t.Fatalf("Of(%x) = %+v, %d, want %+v, %d", b, k, e, want, wrong)
		}
	}
}

// valid returns valid keys, those at the bounds included, with the shortest packet of each.
func valid() map[api.Key]int {
	keys := map[api.Key]int{
		{Version: 4}: 20,
		{Version: 4, Src: src4, Dst: dst4, Proto: 1}:                                                   20,
		{Version: 4, Src: api.Addr{Lo: math.MaxUint32}, Dst: api.Addr{Lo: math.MaxUint32}, Proto: 255}: 20,
		{Version: 6, Proto: 1}:                                         40,
		{Version: 6, Src: src6, Dst: dst6, Proto: 58}:                  40,
		{Version: 6, Src: full, Dst: full, Proto: 255}:                 40,
		{Version: 6, Src: src4, Dst: api.Addr{Lo: 1 << 32}, Proto: 59}: 40,
	}
	// Extension headers are protocols like others in version 4.
	for _, proto := range []int{0, 43, 44, 60} {
		keys[key4(proto, 0, 0)] = 20
	}
	for _, port := range []int{0, 1, 255, 256, 65534, 65535} {
		keys[key4(6, port, 7)] = 40
		keys[key4(6, 7, port)] = 40
		keys[key4(17, port, 7)] = 28
		keys[key4(17, 7, port)] = 28
		keys[key6(6, port, 7)] = 60
		keys[key6(6, 7, port)] = 60
		keys[key6(17, port, 7)] = 48
		keys[key6(17, 7, port)] = 48
	}
	return keys
}

// invalid returns keys each of which has one part that is wrong.
func invalid() []api.Key {
	keys := []api.Key{{}}
	for _, k := range []api.Key{key4(17, 1, 2), key6(17, 1, 2), key4(6, 1, 2), key6(6, 1, 2)} {
		for _, version := range []int{math.MinInt, -4, -1, 0, 1, 3, 5, 7, 10, 4 + 16, 1<<32 + 4, math.MaxInt} {
			bad := k
			bad.Version = version
			keys = append(keys, bad)
		}
		for _, port := range []int{math.MinInt, -1, 65536, 1<<32 + 5, math.MaxInt} {
			keys = append(keys, changed(k, func(k *api.Key) { k.SrcPort = port }), changed(k, func(k *api.Key) { k.DstPort = port }))
		}
		// No port of a protocol that has none.
		for _, proto := range []int{1, 5, 7, 16, 18, 255} {
			keys = append(keys,
				changed(k, func(k *api.Key) { k.Proto, k.SrcPort = proto, 0 }),
				changed(k, func(k *api.Key) { k.Proto, k.DstPort = proto, 0 }),
				changed(k, func(k *api.Key) { k.Proto = proto }))
		}
		for _, proto := range []int{math.MinInt, -17, -6, -1, 256, 256 + 17, 1<<32 + 6, math.MaxInt} {
			keys = append(keys,
				changed(k, func(k *api.Key) { k.Proto = proto }),
				changed(k, func(k *api.Key) { k.Proto, k.SrcPort, k.DstPort = proto, 0, 0 }))
		}
	}
	for _, a := range []api.Addr{{Lo: 1 << 32}, {Hi: 1}, {Hi: 1, Lo: 5}, full, src6} {
		keys = append(keys,
			changed(key4(17, 1, 2), func(k *api.Key) { k.Src = a }),
			changed(key4(17, 1, 2), func(k *api.Key) { k.Dst = a }),
			changed(key4(1, 0, 0), func(k *api.Key) { k.Src, k.Dst = a, a }))
	}
	for _, proto := range []int{0, 43, 44, 60} {
		keys = append(keys, key6(proto, 0, 0), key6(proto, 1, 2))
	}
	return keys
}

func changed(k api.Key, change func(k *api.Key)) api.Key {
	change(&k)
	return k
}

func TestRight(t *testing.T) { // P14.2
	for k := range valid() {
		if !flow.Right(k) {
			t.Errorf("Right(%+v) = false", k)
		}
	}
	for _, k := range invalid() {
		if flow.Right(k) {
			t.Errorf("Right(%+v) = true", k)
		}
	}
	for proto := -1; proto <= 256; proto++ {
		in := proto >= 0 && proto <= 255
		follows := proto == 0 || proto == 43 || proto == 44 || proto == 60
		if flow.Right(key4(proto, 0, 0)) != in || flow.Right(key6(proto, 0, 0)) != (in && !follows) {
			t.Errorf("Right with protocol %d", proto)
		}
	}
}

func TestLeast(t *testing.T) { // P14.2
	for k, want := range valid() {
		if got := flow.Least(k); got != want {
			t.Errorf("Least(%+v) = %d, want %d", k, got, want)
		}
	}
	for _, k := range invalid() {
		if got := flow.Least(k); got != 0 {
			t.Errorf("Least(%+v) = %d", k, got)
		}
	}
}

func TestMake(t *testing.T) { // P14.2
	made := func(k api.Key, size int, want string) {
		t.Helper()
		if got := flow.Make(k, size); got != want {
			t.Errorf("Make(%+v, %d) = %x, want %x", k, size, got, want)
		}
	}
	made(api.Key{Version: 4}, 20, "\x45\x00\x00\x14\x00\x00\x00\x00\x00\x00\xba\xeb\x00\x00\x00\x00\x00\x00\x00\x00")
	made(api.Key{Version: 4, Src: api.Addr{Lo: 1}, Dst: api.Addr{Lo: 2}, Proto: 1}, 22,
		summed("\x45\x00\x00\x16\x00\x00\x00\x00\x00\x01\x00\x00\x00\x00\x00\x01\x00\x00\x00\x02", 20)+"\x00\x00")
	made(key4(17, 53, 5000), 31,
		summed("\x45\x00\x00\x1f\x00\x00\x00\x00\x00\x11\x00\x00\xc0\xa8\x01\x4d\x0a\x01\x02\x03", 20)+
			"\x00\x35\x13\x88\x00\x0b\x00\x00\x00\x00\x00")
	made(key4(6, 0x0102, 65535), 41,
		summed("\x45\x00\x00\x29\x00\x00\x00\x00\x00\x06\x00\x00\xc0\xa8\x01\x4d\x0a\x01\x02\x03", 20)+
			"\x01\x02\xff\xff\x00\x00\x00\x00\x00\x00\x00\x00\x50\x00\x00\x00\x00\x00\x00\x00\x00")
	head := func(length, next byte) string {
		return "\x60\x00\x00\x00" + string([]byte{0, length, next, 0}) + src6Bytes + dst6Bytes
	}
	made(key6(58, 0, 0), 40, head(0, 58))
	made(key6(58, 0, 0), 43, head(3, 58)+"\x00\x00\x00")
	made(key6(17, 53, 5000), 48, head(8, 17)+"\x00\x35\x13\x88\x00\x08\x00\x00")
	made(key6(6, 0x0102, 65535), 61, head(21, 6)+"\x01\x02\xff\xff\x00\x00\x00\x00\x00\x00\x00\x00\x50\x00\x00\x00\x00\x00\x00\x00\x00")
}

func TestMakeSizes(t *testing.T) { // P14.2
	for k, least := range valid() {
		for _, size := range []int{math.MinInt, -1, 0, 1, least - 1, 2049, 4096, 65536, 1<<32 + 100, math.MaxInt} {
			if got := flow.Make(k, size); got != "" {
				t.Errorf("Make(%+v, %d) has %d bytes", k, size, len(got))
			}
		}
		for _, size := range []int{least, least + 1, 1500, 2047, 2048} {
			if got := flow.Make(k, size); len(got) != size {
				t.Errorf("Make(%+v, %d) has %d bytes", k, size, len(got))
			}
		}
	}
	for _, k := range invalid() {
		for _, size := range []int{math.MinInt, -1, 0, 20, 28, 40, 60, 100, 2048, 2049, math.MaxInt} {
			if got := flow.Make(k, size); got != "" {
				t.Errorf("Make(%+v, %d) has %d bytes", k, size, len(got))
			}
		}
	}
}

func TestOfMake(t *testing.T) { // P14.3
	for k, least := range valid() {
		for size := least; size <= 2048; size++ {
			s := flow.Make(k, size)
			if got, e := flow.Of(s); got != k || e != api.OK || len(s) != size {
				t.Fatalf("Of of Make(%+v, %d) = %+v, %d, of %d bytes", k, size, got, e, len(s))
			}
		}
	}
	rnd := rand.New(rand.NewSource(143))
	for range 20000 {
		k := anyKey(rnd)
		if !flow.Right(k) {
			continue
		}
		of(t, flow.Make(k, flow.Least(k)+rnd.Intn(2048-flow.Least(k)+1)), k)
	}
}

// anyKey returns a key that is valid about as often as not.
func anyKey(rnd *rand.Rand) api.Key {
	k := api.Key{Version: 4 + 2*rnd.Intn(2), Proto: []int{6, 17, rnd.Intn(256)}[rnd.Intn(3)]}
	k.Src, k.Dst = api.Addr{Lo: uint64(rnd.Uint32())}, api.Addr{Lo: uint64(rnd.Uint32())}
	if k.Version == 6 || rnd.Intn(8) == 0 {
		k.Src, k.Dst = api.Addr{Hi: rnd.Uint64(), Lo: rnd.Uint64()}, api.Addr{Hi: rnd.Uint64(), Lo: rnd.Uint64()}
	}
	if k.Proto == 6 || k.Proto == 17 || rnd.Intn(8) == 0 {
		k.SrcPort, k.DstPort = rnd.Intn(65536), rnd.Intn(65536)
	}
	return k
}

func TestExamples(t *testing.T) { // P14.1 P14.2
	fails(t, "", api.ErrShort)
	if got := flow.Least(api.Key{Version: 4, Proto: 17}); got != 28 {
		t.Errorf("Least = %d", got)
	}
}

func TestLess(t *testing.T) { // P14.2
	// Each key has a greater part than the one ahead of it, and smaller ones behind that part.
	keys := []api.Key{
		{Version: math.MinInt, Src: full, Dst: full, Proto: 255, SrcPort: 9, DstPort: 9},
		{Version: -1, Src: full, Dst: full, Proto: 255, SrcPort: 9, DstPort: 9},
		{},
		{DstPort: 1},
		{Version: 4, Src: api.Addr{Lo: 1}, Dst: full, Proto: 255, SrcPort: 9, DstPort: 9},
		{Version: 4, Src: api.Addr{Lo: 1 << 63}, Dst: full, Proto: 255, SrcPort: 9, DstPort: 9},
		{Version: 4, Src: api.Addr{Hi: 1}, Dst: api.Addr{Lo: 5}, Proto: 255, SrcPort: 9, DstPort: 9},
		{Version: 4, Src: api.Addr{Hi: 1}, Dst: api.Addr{Lo: 6}, Proto: 255, SrcPort: 9, DstPort: 9},
		{Version: 4, Src: api.Addr{Hi: 1}, Dst: api.Addr{Hi: 2}, Proto: math.MinInt, SrcPort: 9, DstPort: 9},
		{Version: 4, Src: api.Addr{Hi: 1}, Dst: api.Addr{Hi: 2}, Proto: -1, SrcPort: 9, DstPort: 9},
		{Version: 4, Src: api.Addr{Hi: 1}, Dst: api.Addr{Hi: 2}, Proto: 6, SrcPort: math.MinInt, DstPort: 9},
		{Version: 4, Src: api.Addr{Hi: 1}, Dst: api.Addr{Hi: 2}, Proto: 6, SrcPort: 8, DstPort: 9},
		{Version: 4, Src: api.Addr{Hi: 1}, Dst: api.Addr{Hi: 2}, Proto: 6, SrcPort: 9, DstPort: math.MinInt},
		{Version: 4, Src: api.Addr{Hi: 1}, Dst: api.Addr{Hi: 2}, Proto: 6, SrcPort: 9, DstPort: 8},
		{Version: 4, Src: api.Addr{Hi: 1}, Dst: api.Addr{Hi: 2}, Proto: 6, SrcPort: 9, DstPort: math.MaxInt},
		{Version: 4, Src: api.Addr{Hi: 1}, Dst: api.Addr{Hi: 2}, Proto: 6, SrcPort: math.MaxInt},
		{Version: 4, Src: api.Addr{Hi: 1}, Dst: api.Addr{Hi: 2}, Proto: math.MaxInt},
		{Version: 4, Src: api.Addr{Hi: 1}, Dst: full},
		{Version: 4, Src: full},
		{Version: 6},
		{Version: math.MaxInt},
	}
	for i, a := range keys {
		for j, b := range keys {
			if got := flow.Less(a, b); got != (i < j) {
				t.Errorf("Less(%+v, %+v) = %t", a, b, got)
			}
		}
	}
}

func TestLessIsTotal(t *testing.T) { // P14.3
	rnd := rand.New(rand.NewSource(144))
	addr := func() api.Addr { return api.Addr{Hi: uint64(rnd.Intn(2)), Lo: uint64(rnd.Intn(2))} }
	keys := make([]api.Key, 150)
	for i := range keys {
		keys[i] = api.Key{Version: rnd.Intn(2), Src: addr(), Dst: addr(), Proto: rnd.Intn(2), SrcPort: rnd.Intn(2), DstPort: rnd.Intn(2)}
		if i%3 == 0 {
			keys[i] = anyKey(rnd)
		}
	}
	for _, a := range keys {
		for _, b := range keys {
			ahead, behind := flow.Less(a, b), flow.Less(b, a)
			if a == b && (ahead || behind) || a != b && ahead == behind {
				t.Fatalf("%+v and %+v: %t, %t", a, b, ahead, behind)
			}
			for _, c := range keys {
				if ahead && flow.Less(b, c) && !flow.Less(a, c) {
					t.Fatalf("%+v, %+v, %+v are in no order", a, b, c)
				}
			}
		}
	}
}
