package ipv4_test

import (
	"math"
	"math/rand"
	"strings"
	"testing"

	"flashlock/api"
	"flashlock/ipv4"
)

const most = 65515

// plain is a packet of 23 bytes whose fields all differ, as a capture would show it.
const plain = "\x45\x01\x00\x17\x02\x03\x20\x05\x06\x11\xba\xc0\x0a\x0b\x0c\x0d\xc0\xa8\x01\x4dabc"

var plainHeader = ipv4.Header{
	Src: api.Addr{Lo: 0x0a0b0c0d}, Dst: api.Addr{Lo: 0xc0a8014d},
	Proto: 17, Start: 20, Size: 23, Offset: 5, More: true,
}

func parses(t *testing.T, s string, want ipv4.Header) {
	t.Helper()
	if h, e := ipv4.Parse(s); h != want || e != api.OK {
		t.Errorf("Parse(%.64x) = %+v, %d, want %+v", s, h, e, want)
	}
}

func fails(t *testing.T, s string, want api.Errno) {
	t.Helper()
	if h, e := ipv4.Parse(s); h != (ipv4.Header{}) || e != want {
		t.Errorf("Parse(%.64x) = %+v, %d, want %d", s, h, e, want)
	}
}

// with returns s with the bytes of part from place on.
func with(s string, place int, part ...byte) string {
	return s[:place] + string(part) + s[place+len(part):]
}

// summed returns s with the checksum that makes a header of n bytes right.
func summed(s string, n int) string {
	s = with(s, 10, 0, 0)
	sum := checksum(s[:n])
	return with(s, 10, byte(sum>>8), byte(sum))
}

// checksum adds number by number and takes each carry in at once, unlike the chapter.
func checksum(s string) int {
	if len(s)%2 == 1 {
		s += "\x00"
	}
	sum := 0
	for ; s != ""; s = s[2:] {
		sum += int(s[0])*256 + int(s[1])
		if sum >= 65536 {
			sum -= 65535
		}
	}
	return 65535 - sum
}

// reference parses by places, error by error.
func reference(s string) (ipv4.Header, api.Errno) {
	if len(s) < 20 {
		return ipv4.Header{}, api.ErrShort
	}
	if s[0]/16 != 4 {
		return ipv4.Header{}, api.ErrVersion
	}
	start := int(s[0]%16) * 4
	if start < 20 || start > len(s) {
		return ipv4.Header{}, api.ErrHead
	}
	size := int(s[2])*256 + int(s[3])
	if size < start || size > len(s) {
		return ipv4.Header{}, api.ErrForm
	}
	if checksum(s[:start]) != 0 {
		return ipv4.Header{}, api.ErrSum
	}
	lo := func(s string) api.Addr {
		return api.Addr{Lo: uint64(s[0])<<24 + uint64(s[1])<<16 + uint64(s[2])<<8 + uint64(s[3])}
	}
	return ipv4.Header{
		Src: lo(s[12:]), Dst: lo(s[16:]), Proto: int(s[9]), Start: start, Size: size,
		Offset: int(s[6]%32)*256 + int(s[7]), More: s[6]/32%2 == 1,
	}, api.OK
}

func sums(t *testing.T, s string, want int) {
	t.Helper()
	if got := ipv4.Sum(s); got != want {
		t.Errorf("Sum(%.40x) = %d, want %d", s, got, want)
	}
}

func TestSum(t *testing.T) { // P11.1
	sums(t, "", 65535)
	sums(t, "\x00", 65535)
	sums(t, "\x00\x01", 65534)
	sums(t, "\x01", 65535-256)
	sums(t, "\x01\x02\x03", 65535-0x0402)
	sums(t, "\xff\xff", 0)
	sums(t, "\xff", 255)
	sums(t, "\xff\xff\x00\x01", 65534)
	sums(t, "\xff\xff\xff\xff", 0)
	sums(t, "\x80\x00\x80\x00", 65534)
	// The example of RFC 1071: the sum is 2ddf0, and ddf2 with its carry.
	sums(t, "\x00\x01\xf2\x03\xf4\xf5\xf6\xf7", 65535-0xddf2)
	// One carry makes another: ffffffff, 1fffe, ffff.
	sums(t, strings.Repeat("\xff\xff", 65537), 0)
	sums(t, strings.Repeat("\xff\xff", 65537)+"\x00\x01", 65534)
	sums(t, strings.Repeat("\xff\xff", 1<<16)+"\xff", 255)
	rnd := rand.New(rand.NewSource(11))
	for n := range 600 {
		b := make([]byte, n%300)
		rnd.Read(b)
		sums(t, string(b), checksum(string(b)))
	}
}

func TestSumFolds(t *testing.T) { // P11.1
	// What is above the low bits grows with the length, and so do the carries that make others.
	for n := range 300 {
		for _, tail := range []string{"", "\x00\x01", "\x00\xff", "\xff\xfe", "\x01"} {
			s := strings.Repeat("\xff\xfe", n) + tail
			sums(t, s, checksum(s))
		}
	}
	s := strings.Repeat("\xff\xff\x00\x01", 1<<15) + strings.Repeat("\xff\xff", 1<<15)
	sums(t, s, checksum(s))
}

func TestParse(t *testing.T) { // P11.2
	parses(t, plain, plainHeader)
	parses(t, plain+"ignored", plainHeader)
	want := plainHeader
	want.Size = 20
	parses(t, summed(with(plain, 3, 20), 20), want)
	want = plainHeader
	want.More = false
	parses(t, summed(with(plain, 6, 0), 20), want)
	// The two bits above the flag for more fragments tell nothing.
	parses(t, summed(with(plain, 6, 0xc0), 20), want)
	want.Offset, want.More = 8191, false
	parses(t, summed(with(plain, 6, 0xdf, 0xff), 20), want)
	want.More = true
	parses(t, summed(with(plain, 6, 0xff, 0xff), 20), want)
	want.Offset = 4096
	parses(t, summed(with(plain, 6, 0x30, 0), 20), want)
	want = plainHeader
	want.Src.Lo, want.Dst.Lo, want.Proto = math.MaxUint32, 0x80000000, 255
	parses(t, summed(with(with(plain, 9, 255), 12, 255, 255, 255, 255, 128, 0, 0, 0), 20), want)
}

func TestParseOptions(t *testing.T) { // P11.2
	long := plain[:20] + strings.Repeat("\x9c\x01\x7f", 15)
	for words := 5; words < 16; words++ {
		n := words * 4
		s := summed(with(with(long, 0, byte(0x40+words)), 2, 0, byte(n)), n)
		want := plainHeader
		want.Start, want.Size = n, n
		parses(t, s, want)
		parses(t, s[:n], want)
		// The checksum is that of the options too, and of nothing behind them.
		fails(t, with(s, n-1, s[n-1]^1), api.ErrSum)
		parses(t, with(s, n, s[n]^1), want)
		fails(t, summed(with(s, 3, byte(n-1)), n), api.ErrForm)
		if n > 20 {
			fails(t, s[:n-1], api.ErrHead)
		}
	}
}

func TestParseErrors(t *testing.T) { // P11.2
	for n := range 20 {
		fails(t, plain[:n], api.ErrShort)
		fails(t, strings.Repeat("\x00", n), api.ErrShort)
	}
	for v := range 16 {
		if v != 4 {
			fails(t, summed(with(plain, 0, byte(v<<4|5)), 20), api.ErrVersion)
			// It is told ahead of all that is wrong behind it.
			fails(t, with(plain, 0, byte(v<<4), 0, 0, 0), api.ErrVersion)
		}
	}
	for words := range 5 {
		fails(t, summed(with(plain, 0, byte(0x40|words)), 20), api.ErrHead)
		fails(t, with(plain, 0, byte(0x40|words), 0, 0, 0), api.ErrHead)
	}
	for words := 6; words < 16; words++ {
		fails(t, with(plain, 0, byte(0x40|words)), api.ErrHead)
	}
	for _, size := range []int{0, 1, 19, 24, 255, 256, 65535} {
		fails(t, summed(with(plain, 2, byte(size>>8), byte(size)), 20), api.ErrForm)
		fails(t, with(plain, 2, byte(size>>8), byte(size)), api.ErrForm)
	}
	fails(t, plain[:22], api.ErrForm)
	fails(t, with(plain, 10, 0, 0), api.ErrSum)
	fails(t, with(plain, 10, 0xba, 0xc1), api.ErrSum)
	fails(t, with(plain, 10, 0xba, 0xbf), api.ErrSum)
	fails(t, with(plain, 1, 0), api.ErrSum)
	fails(t, strings.Repeat("\x00", 40), api.ErrVersion)
}

func TestParseSizes(t *testing.T) { // P11.2
	for _, n := range []int{20, 21, 255, 256, 257, 1500, 65534, 65535, 65536, 70000} {
		s := plain[:20] + strings.Repeat("x", n-20)
		for _, size := range []int{0, 19, 20, 21, n - 1, n, n + 1, 255, 256, 65535} {
			size &= 65535
			told := summed(with(s, 2, byte(size>>8), byte(size)), 20)
			if size < 20 || size > n {
				fails(t, told, api.ErrForm)
				continue
			}
			want := plainHeader
			want.Size = size
			parses(t, told, want)
		}
	}
}

func TestParseAny(t *testing.T) { // P11.2 P6
	rnd := rand.New(rand.NewSource(112))
	seen := map[api.Errno]int{}
	for range 100000 {
		b := make([]byte, rnd.Intn(70))
		rnd.Read(b)
		if len(b) >= 20 {
			// Mostly right, so that all of the errors come up.
			if rnd.Intn(8) > 0 {
				b[0] = 0x40 | byte(4+rnd.Intn(12))
			}
			if rnd.Intn(8) > 0 {
				b[2], b[3] = 0, byte(rnd.Intn(len(b)+2))
			}
			if n := int(b[0]%16) * 4; rnd.Intn(4) > 0 && n >= 12 && n <= len(b) {
				b = []byte(summed(string(b), n))
			}
		}
		want, wrong := reference(string(b))
		seen[wrong]++
		if h, e := ipv4.Parse(string(b)); h != want || e != wrong {
			t.Fatalf("Parse(%x) = %+v, %d, want %+v, %d", b, h, e, want, wrong)
		}
	}
	for _, e := range []api.Errno{api.OK, api.ErrShort, api.ErrVersion, api.ErrHead, api.ErrForm, api.ErrSum} {
		if seen[e] < 100 {
			t.Errorf("error %d came up %d times", e, seen[e])
		}
	}
}

func made(t *testing.T, h ipv4.Header, payload, want string) {
	t.Helper()
	if got := ipv4.Make(h, payload); got != want {
		t.Errorf("Make(%+v, %q) = %x, want %x", h, payload, got, want)
	}
}

func TestMake(t *testing.T) { // P11.3
	zero := "\x45\x00\x00\x14\x00\x00\x00\x00\x00\x00\xba\xeb\x00\x00\x00\x00\x00\x00\x00\x00"
	if zero[:12] != string([]byte{69, 0, 0, 20, 0, 0, 0, 0, 0, 0, 186, 235}) {
		t.Error("the example is written wrong")
	}
	made(t, ipv4.Header{}, "", zero)
	// Start and Size are not taken from the header.
	made(t, ipv4.Header{Start: 60, Size: 7}, "", zero)
	bare := func(h ipv4.Header, payload, fields string) {
		t.Helper()
		made(t, h, payload, summed(fields, 20)+payload)
	}
	bare(plainHeader, "abc", "\x45\x00\x00\x17\x00\x00\x20\x05\x00\x11\x00\x00\x0a\x0b\x0c\x0d\xc0\xa8\x01\x4d")
	bare(ipv4.Header{Offset: 8191}, "", "\x45\x00\x00\x14\x00\x00\x1f\xff\x00\x00\x00\x00\x00\x00\x00\x00\x00\x00\x00\x00")
	bare(ipv4.Header{Offset: -1}, "", "\x45\x00\x00\x14\x00\x00\x1f\xff\x00\x00\x00\x00\x00\x00\x00\x00\x00\x00\x00\x00")
	bare(ipv4.Header{Offset: 8192 + 3}, "", "\x45\x00\x00\x14\x00\x00\x00\x03\x00\x00\x00\x00\x00\x00\x00\x00\x00\x00\x00\x00")
	bare(ipv4.Header{Offset: math.MinInt, More: true}, "", "\x45\x00\x00\x14\x00\x00\x20\x00\x00\x00\x00\x00\x00\x00\x00\x00\x00\x00\x00\x00")
	bare(ipv4.Header{Offset: math.MaxInt, More: true}, "", "\x45\x00\x00\x14\x00\x00\x3f\xff\x00\x00\x00\x00\x00\x00\x00\x00\x00\x00\x00\x00")
	bare(ipv4.Header{Proto: 256 + 6}, "", "\x45\x00\x00\x14\x00\x00\x00\x00\x00\x06\x00\x00\x00\x00\x00\x00\x00\x00\x00\x00")
	bare(ipv4.Header{Proto: -1}, "", "\x45\x00\x00\x14\x00\x00\x00\x00\x00\xff\x00\x00\x00\x00\x00\x00\x00\x00\x00\x00")
	wide := ipv4.Header{Src: api.Addr{Hi: math.MaxUint64, Lo: 0xffffffff_01020304}, Dst: api.Addr{Hi: 1, Lo: 1<<32 | 5}}
	bare(wide, "", "\x45\x00\x00\x14\x00\x00\x00\x00\x00\x00\x00\x00\x01\x02\x03\x04\x00\x00\x00\x05")
	bare(ipv4.Header{}, strings.Repeat("x", 236), "\x45\x00\x01\x00\x00\x00\x00\x00\x00\x00\x00\x00\x00\x00\x00\x00\x00\x00\x00\x00")
	// A checksum of 0 is written as it is.
	bare(ipv4.Header{Src: api.Addr{Lo: 0xbaeb}}, "", "\x45\x00\x00\x14\x00\x00\x00\x00\x00\x00\x00\x00\x00\x00\xba\xeb\x00\x00\x00\x00")
}

func TestMakeLong(t *testing.T) { // P11.3
	full := strings.Repeat("x", most)
	s := ipv4.Make(plainHeader, full)
	if len(s) != 65535 || s[2:4] != "\xff\xff" || s[20:] != full {
		t.Errorf("Make of the longest payload has %d bytes", len(s))
	}
	want := plainHeader
	want.Size = 65535
	parses(t, s, want)
	for _, more := range []string{"x", full} {
		made(t, plainHeader, full+more, "")
	}
}

// random returns a header as Parse may tell it, with Start and Size of a packet with n bytes of payload.
func random(rnd *rand.Rand, n int) ipv4.Header {
	return ipv4.Header{
		Src: api.Addr{Lo: uint64(rnd.Uint32())}, Dst: api.Addr{Lo: uint64(rnd.Uint32())},
		Proto: rnd.Intn(256), Start: 20, Size: 20 + n, Offset: rnd.Intn(8192), More: rnd.Intn(2) == 0,
	}
}

func TestParseMake(t *testing.T) { // P11.4
	rnd := rand.New(rand.NewSource(114))
	for i := range 3000 {
		payload := strings.Repeat("\xa5", []int{0, 1, 2, 235, 236, 1480, most}[i%7])
		h := random(rnd, len(payload))
		s := ipv4.Make(h, payload)
		parses(t, s, h)
		parses(t, s+"behind", h)
	}
	// What exceeds a field is cut to its low bits.
	h := ipv4.Header{Src: api.Addr{Hi: 7, Lo: 9<<32 | 1}, Proto: 300, Offset: 8193}
	parses(t, ipv4.Make(h, ""), ipv4.Header{Src: api.Addr{Lo: 1}, Proto: 44, Start: 20, Size: 20, Offset: 1})
}

// flipped returns s with one bit of it inverted.
func flipped(s string, bit int) string {
	return with(s, bit/8, s[bit/8]^(0x80>>(bit%8)))
}

func TestParseFlipped(t *testing.T) { // P11.4
	rnd := rand.New(rand.NewSource(1142))
	packets := []string{plain, plain + strings.Repeat("x", 70000), ipv4.Make(ipv4.Header{}, ""), ipv4.Make(ipv4.Header{Src: api.Addr{Lo: 0xbaeb}}, "")}
	for range 20 {
		packets = append(packets, ipv4.Make(random(rnd, 300), strings.Repeat("y", 300)))
	}
	long := plain[:20] + strings.Repeat("\x07\x00\xff\x33", 10)
	packets = append(packets, summed(with(with(long, 0, 0x4f), 3, 60), 60))
	for _, s := range packets {
		end := int(s[0]%16) * 32
		for i := 8; i < end; i++ {
			once := flipped(s, i)
			if h, e := ipv4.Parse(once); e == api.OK || h != (ipv4.Header{}) {
				t.Errorf("Parse of %.60x without bit %d = %+v, %d", s, i, h, e)
			}
			for j := i + 1; j <= i+15 && j < end; j++ {
				if h, e := ipv4.Parse(flipped(once, j)); e == api.OK || h != (ipv4.Header{}) {
					t.Errorf("Parse of %.60x without bits %d and %d = %+v, %d", s, i, j, h, e)
				}
			}
		}
	}
}
