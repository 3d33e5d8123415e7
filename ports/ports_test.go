package ports_test

import (
	"math"
	"math/rand"
	"strings"
	"testing"

	"flashlock/api"
	"flashlock/ports"
)

const most = 65515

var others = []int{math.MinInt, -17, -6, -1, 0, 1, 5, 7, 16, 18, 58, 255, 256 + 6, 1<<32 + 17, math.MaxInt}

func of(t *testing.T, proto int, s string, src, dst int, e api.Errno) {
	t.Helper()
	if a, b, got := ports.Of(proto, s); a != src || b != dst || got != e {
		t.Errorf("Of(%d, %.40x) = %d, %d, %d, want %d, %d, %d", proto, s, a, b, got, src, dst, e)
	}
}

// with returns s with the bytes of part from place on.
func with(s string, place int, part ...byte) string {
	return s[:place] + string(part) + s[place+len(part):]
}

func TestHas(t *testing.T) { // P13.1
	if ports.TCP != 6 || ports.UDP != 17 {
		t.Error("numbers of the protocols")
	}
	if !ports.Has(6) || !ports.Has(17) || ports.Least(6) != 20 || ports.Least(17) != 8 {
		t.Error("Has and Least of TCP and UDP")
	}
	for _, proto := range others {
		if ports.Has(proto) || ports.Least(proto) != 0 {
			t.Errorf("protocol %d has ports", proto)
		}
	}
}

func TestOfTCP(t *testing.T) { // P13.1
	// Every byte differs, so that a wrong place is seen; byte 12 tells 20 bytes.
	s := "\x01\x02\x03\x04\x05\x06\x07\x08\x09\x0a\x0b\x0c\x5f\x0e\x0f\x10\x11\x12\x13\x14"
	of(t, 6, s, 0x0102, 0x0304, api.OK)
	of(t, 6, s+"payload", 0x0102, 0x0304, api.OK)
	of(t, 6, with(s, 0, 0xff, 0xff, 0, 0), 65535, 0, api.OK)
	of(t, 6, with(s, 0, 0, 0, 0xff, 0xff), 0, 65535, api.OK)
	for n := range 20 {
		of(t, 6, s[:n], 0, 0, api.ErrShort)
		of(t, 6, with(s, 12, 0)[:n], 0, 0, api.ErrShort)
	}
	for told := range 16 {
		for low := range 16 {
			for n := 20; n < 64; n++ {
				long := with(s+strings.Repeat("x", n-20), 12, byte(told<<4|low))
				if told*4 < 20 || told*4 > n {
					of(t, 6, long, 0, 0, api.ErrHead)
				} else {
					of(t, 6, long, 0x0102, 0x0304, api.OK)
				}
			}
		}
	}
}

func TestOfUDP(t *testing.T) { // P13.1
	s := "\x01\x02\x03\x04\x00\x08\x07\x09"
	of(t, 17, s, 0x0102, 0x0304, api.OK)
	of(t, 17, s+"payload", 0x0102, 0x0304, api.OK)
	of(t, 17, with(s, 0, 0xff, 0xff, 0, 0), 65535, 0, api.OK)
	of(t, 17, with(s, 0, 0, 0, 0xff, 0xff), 0, 65535, api.OK)
	for n := range 8 {
		of(t, 17, s[:n], 0, 0, api.ErrShort)
		of(t, 17, with(s, 4, 0, 0)[:n], 0, 0, api.ErrShort)
	}
	for _, n := range []int{8, 9, 255, 256, 300, 65535, 65536, 70000} {
		long := s + strings.Repeat("x", n-8)
		for _, told := range []int{0, 1, 7, 8, 9, n - 1, n, n + 1, 255, 256, 65534, 65535} {
			told &= 65535
			long := with(long, 4, byte(told>>8), byte(told))
			if told < 8 || told > n {
				of(t, 17, long, 0, 0, api.ErrForm)
			} else {
				of(t, 17, long, 0x0102, 0x0304, api.OK)
			}
		}
	}
}

func TestOfOthers(t *testing.T) { // P13.1
	for _, proto := range others {
		for _, s := range []string{"", "abc", ports.Make(6, 1, 2, "abc"), ports.Make(17, 1, 2, "abc")} {
			of(t, proto, s, 0, 0, api.OK)
		}
	}
}

func TestMake(t *testing.T) { // P13.2
	made := func(proto, src, dst int, payload, want string) {
		t.Helper()
		if got := ports.Make(proto, src, dst, payload); got != want {
			t.Errorf("Make(%d, %d, %d, %q) = %x, want %x", proto, src, dst, payload, got, want)
		}
	}
	tail := "\x00\x00\x00\x00\x00\x00\x00\x00\x50\x00\x00\x00\x00\x00\x00\x00"
	made(17, 53, 5000, "abc", "\x00\x35\x13\x88\x00\x0b\x00\x00abc")
	made(17, 0x0102, 0x0304, "", "\x01\x02\x03\x04\x00\x08\x00\x00")
	made(17, 1, 2, strings.Repeat("x", 248), "\x00\x01\x00\x02\x01\x00\x00\x00"+strings.Repeat("x", 248))
	made(6, 0x0102, 0x0304, "abc", "\x01\x02\x03\x04"+tail+"abc")
	made(6, 0, 0, "", "\x00\x00\x00\x00"+tail)
	// The low 16 bits of the ports.
	made(6, 0x7fff_0001_0203, -1, "", "\x02\x03\xff\xff"+tail)
	made(17, math.MinInt, math.MaxInt, "", "\x00\x00\xff\xff\x00\x08\x00\x00")
	made(17, 65536, 65535, "", "\x00\x00\xff\xff\x00\x08\x00\x00")
	for _, proto := range others {
		made(proto, 1, 2, "abc", "abc")
		made(proto, 1, 2, "", "")
	}
}

func TestMakeLong(t *testing.T) { // P13.2
	full := strings.Repeat("x", most)
	for _, proto := range []int{6, 17, 0, 1, 58, -1} {
		s := ports.Make(proto, 53, 5000, full)
		if len(s) != ports.Least(proto)+most || !strings.HasSuffix(s, full) {
			t.Errorf("Make(%d) of the longest payload has %d bytes", proto, len(s))
		}
		for _, more := range []string{"x", full} {
			if s := ports.Make(proto, 53, 5000, full+more); s != "" {
				t.Errorf("Make(%d) of too long a payload has %d bytes", proto, len(s))
			}
		}
	}
}

func TestOfMake(t *testing.T) { // P13.3
	of(t, 17, ports.Make(17, 53, 5000, "abc"), 53, 5000, api.OK)
	rnd := rand.New(rand.NewSource(13))
	lengths := []int{0, 1, 7, 8, 19, 20, 255, 256, 1480, most - 1, most}
	for i := range 2000 {
		src, dst := rnd.Intn(1<<20)-1<<19, rnd.Intn(65536)
		payload := strings.Repeat("\xff", lengths[i%len(lengths)])
		for _, proto := range []int{6, 17} {
			of(t, proto, ports.Make(proto, src, dst, payload), src&65535, dst, api.OK)
		}
	}
}
