package inet_test

import (
	"bytes"
	"math"
	"math/rand"
	"slices"
	"strings"
	"testing"

	"flashlock/api"
	"flashlock/inet"
)

const all = math.MaxUint64

var others = []int{math.MinInt, -6, -4, -1, 0, 1, 3, 5, 7, 46, math.MaxInt}

// v4 returns the address a.b.c.d.
func v4(a, b, c, d uint64) api.Addr { return api.Addr{Lo: a<<24 | b<<16 | c<<8 | d} }

// some are addresses with and without valid readings as version 4.
var some = []api.Addr{
	{}, {Lo: 1}, {Lo: 1 << 31}, {Lo: 1<<32 - 1}, v4(192, 168, 1, 77), v4(192, 168, 1, 0), v4(10, 0, 0, 1),
	{Lo: 1 << 32}, {Lo: 1<<32 | 77}, {Lo: 1 << 63}, {Lo: all}, {Hi: 1}, {Hi: 1, Lo: 1}, {Hi: 1 << 63}, {Hi: all}, {Hi: all, Lo: all},
	{Hi: 0x20010db8_00000000, Lo: 0x1}, {Hi: 0x0123456789abcdef, Lo: 0xfedcba9876543210},
}

// digits writes an address in base 2, or the empty string if it is not valid.
func digits(version int, a api.Addr) string {
	size := map[int]int{4: 32, 6: 128}[version]
	b := make([]byte, size)
	for i := range 128 {
		half := a.Lo
		if i < 64 {
			half = a.Hi
		}
		bit := byte(half >> (63 - i%64) & 1)
		switch place := i - 128 + size; {
		case place >= 0:
			b[place] = '0' + bit
		case bit != 0:
			return ""
		}
	}
	return string(b)
}

// masked is digits of the first n bits.
func masked(version int, a api.Addr, n int) string {
	s := digits(version, a)
	n = max(0, min(n, len(s)))
	return s[:n] + strings.Repeat("0", len(s)-n)
}

// random draws an address that is often near another one.
func random(rnd *rand.Rand, version int, near api.Addr) api.Addr {
	a := near
	if rnd.Intn(4) == 0 {
		a = api.Addr{Hi: rnd.Uint64(), Lo: rnd.Uint64()}
	}
	if bit := rnd.Intn(160); bit < 64 {
		a.Lo ^= 1 << bit
	} else if bit < 128 {
		a.Hi ^= 1 << (bit - 64)
	}
	if version == 4 {
		a.Hi, a.Lo = 0, a.Lo&(1<<32-1)
	}
	return a
}

func TestBits(t *testing.T) { // P10.1
	if inet.Bits(4) != 32 || inet.Bits(6) != 128 {
		t.Errorf("Bits = %d, %d", inet.Bits(4), inet.Bits(6))
	}
	for _, version := range others {
		if n := inet.Bits(version); n != 0 {
			t.Errorf("Bits(%d) = %d", version, n)
		}
	}
}

func TestRight(t *testing.T) { // P10.1
	for _, a := range some {
		if inet.Right(4, a) != (a.Hi == 0 && a.Lo < 1<<32) {
			t.Errorf("Right(4, %x)", a)
		}
		if !inet.Right(6, a) {
			t.Errorf("Right(6, %x)", a)
		}
		for _, version := range others {
			if inet.Right(version, a) {
				t.Errorf("Right(%d, %x)", version, a)
			}
		}
	}
}

func TestMask(t *testing.T) { // P10.1
	for n, want := range map[int]api.Addr{24: v4(192, 168, 1, 0), 32: v4(192, 168, 1, 77), 31: v4(192, 168, 1, 76), 33: v4(192, 168, 1, 77), 1: v4(128, 0, 0, 0), 0: {}, -1: {}} {
		if got := inet.Mask(4, v4(192, 168, 1, 77), n); got != want {
			t.Errorf("Mask(4, 192.168.1.77, %d) = %x, want %x", n, got, want)
		}
	}
	for n, want := range map[int]api.Addr{0: {}, 1: {Hi: 1 << 63}, 63: {Hi: all - 1}, 64: {Hi: all}, 65: {Hi: all, Lo: 1 << 63}, 127: {Hi: all, Lo: all - 1}, 128: {Hi: all, Lo: all}, 129: {Hi: all, Lo: all}} {
		if got := inet.Mask(6, api.Addr{Hi: all, Lo: all}, n); got != want {
			t.Errorf("Mask(6, all, %d) = %x, want %x", n, got, want)
		}
	}
	for _, version := range []int{4, 6} {
		for _, a := range some {
			if !inet.Right(version, a) {
				continue
			}
			for n := range 131 {
				if got := inet.Mask(version, a, n-1); digits(version, got) != masked(version, a, n-1) {
					t.Errorf("Mask(%d, %x, %d) = %x", version, a, n-1, got)
				}
			}
			if inet.Mask(version, a, math.MinInt) != (api.Addr{}) || inet.Mask(version, a, math.MaxInt) != a {
				t.Errorf("Mask(%d, %x) of far lengths", version, a)
			}
		}
	}
}

func TestMaskInvalid(t *testing.T) { // P10.1
	for _, a := range some {
		for _, n := range []int{-1, 0, 1, 32, 64, 128, 129} {
			for _, version := range others {
				if got := inet.Mask(version, a, n); got != (api.Addr{}) {
					t.Errorf("Mask(%d, %x, %d) = %x", version, a, n, got)
				}
			}
			if got := inet.Mask(4, a, n); !inet.Right(4, a) && got != (api.Addr{}) {
				t.Errorf("Mask(4, %x, %d) = %x", a, n, got)
			}
		}
	}
}

func TestIn(t *testing.T) { // P10.1
	net := v4(192, 168, 1, 0)
	if !inet.In(4, v4(192, 168, 1, 77), net, 24) || inet.In(4, v4(192, 168, 2, 77), net, 24) {
		t.Error("In(4, .., 192.168.1.0, 24)")
	}
	if !inet.In(4, v4(192, 168, 1, 77), v4(192, 168, 1, 88), 24) {
		t.Error("bits of net behind the prefix count")
	}
	for _, version := range []int{4, 6} {
		for _, a := range some {
			for _, b := range some {
				for _, n := range []int{math.MinInt, -1, 0, 1, 8, 24, 31, 32, 33, 63, 64, 65, 127, 128, 129, math.MaxInt} {
					want := inet.Right(version, a) && inet.Right(version, b) && masked(version, a, n) == masked(version, b, n)
					if got := inet.In(version, a, b, n); got != want {
						t.Errorf("In(%d, %x, %x, %d) = %t", version, a, b, n, got)
					}
				}
			}
		}
	}
	for _, version := range others {
		if inet.In(version, api.Addr{}, api.Addr{}, 0) || inet.In(version, net, net, 32) {
			t.Errorf("In(%d)", version)
		}
	}
	// Both have the zero Mask, for neither is valid.
	if inet.In(4, api.Addr{Hi: 1}, api.Addr{Hi: 2}, 8) || inet.In(4, api.Addr{}, api.Addr{Hi: 2}, 8) || inet.In(4, api.Addr{Hi: 2}, api.Addr{}, 8) {
		t.Error("In takes what is no address")
	}
}

func TestCommon(t *testing.T) { // P10.1
	if n := inet.Common(4, v4(192, 168, 1, 77), v4(192, 168, 1, 0)); n != 25 {
		t.Errorf("Common = %d", n)
	}
	for _, version := range []int{4, 6} {
		for _, a := range some {
			for _, b := range some {
				want := 0
				if x, y := digits(version, a), digits(version, b); inet.Right(version, a) && inet.Right(version, b) {
					for want < len(x) && x[want] == y[want] {
						want++
					}
				}
				if got := inet.Common(version, a, b); got != want {
					t.Errorf("Common(%d, %x, %x) = %d, want %d", version, a, b, got, want)
				}
			}
		}
	}
	for _, version := range others {
		if n := inet.Common(version, api.Addr{}, api.Addr{}); n != 0 {
			t.Errorf("Common(%d) = %d", version, n)
		}
	}
}

func TestLess(t *testing.T) { // P10.1
	sorted := []api.Addr{{}, {Lo: 1}, {Lo: 1 << 32}, {Lo: 1 << 63}, {Lo: all}, {Hi: 1}, {Hi: 1, Lo: all}, {Hi: 1 << 63}, {Hi: all}, {Hi: all, Lo: 1}, {Hi: all, Lo: all}}
	for i, a := range sorted {
		for j, b := range sorted {
			if inet.Less(a, b) != (i < j) {
				t.Errorf("Less(%x, %x)", a, b)
			}
		}
	}
}

func TestOf(t *testing.T) { // P10.2
	if a, v, ok := inet.Of("\xc0\xa8\x01\x4d"); a != v4(192, 168, 1, 77) || v != 4 || !ok {
		t.Errorf("Of = %x, %d, %t", a, v, ok)
	}
	if a, v, ok := inet.Of("\x01\x23\x45\x67\x89\xab\xcd\xef\xfe\xdc\xba\x98\x76\x54\x32\x10"); a != (api.Addr{Hi: 0x0123456789abcdef, Lo: 0xfedcba9876543210}) || v != 6 || !ok {
		t.Errorf("Of = %x, %d, %t", a, v, ok)
	}
	for n := range 40 {
		s := strings.Repeat("\x05", n)
		a, v, ok := inet.Of(s)
		if n == 4 || n == 16 {
			if !ok || v == 0 || a == (api.Addr{}) {
				t.Errorf("Of(%x) = %x, %d, %t", s, a, v, ok)
			}
		} else if a != (api.Addr{}) || v != 0 || ok {
			t.Errorf("Of(%x) = %x, %d, %t", s, a, v, ok)
		}
	}
}

func TestBytes(t *testing.T) { // P10.2
	if s := inet.Bytes(4, v4(192, 168, 1, 77)); s != "\xc0\xa8\x01\x4d" {
		t.Errorf("Bytes = %x", s)
	}
	if s := inet.Bytes(6, v4(192, 168, 1, 77)); s != strings.Repeat("\x00", 12)+"\xc0\xa8\x01\x4d" {
		t.Errorf("Bytes = %x", s)
	}
	if s := inet.Bytes(6, api.Addr{Hi: 0x0123456789abcdef, Lo: 0xfedcba9876543210}); s != "\x01\x23\x45\x67\x89\xab\xcd\xef\xfe\xdc\xba\x98\x76\x54\x32\x10" {
		t.Errorf("Bytes = %x", s)
	}
	for _, a := range some {
		if s := inet.Bytes(4, a); !inet.Right(4, a) && s != "" {
			t.Errorf("Bytes(4, %x) = %x", a, s)
		}
		for _, version := range others {
			if s := inet.Bytes(version, a); s != "" {
				t.Errorf("Bytes(%d, %x) = %x", version, a, s)
			}
		}
	}
}

func TestInverse(t *testing.T) { // P10.3
	rnd := rand.New(rand.NewSource(10))
	for i := range 4000 {
		version := 4 + i%2*2
		a := random(rnd, version, some[i%len(some)])
		s := inet.Bytes(version, a)
		if len(s) != inet.Bits(version)/8 {
			t.Errorf("Bytes(%d, %x) has %d bytes", version, a, len(s))
		}
		if b, v, ok := inet.Of(s); b != a || v != version || !ok {
			t.Errorf("Of(Bytes(%d, %x)) = %x, %d, %t", version, a, b, v, ok)
		}
		raw := make([]byte, len(s))
		rnd.Read(raw)
		if b, v, _ := inet.Of(string(raw)); inet.Bytes(v, b) != string(raw) {
			t.Errorf("Bytes(Of(%x)) = %x", raw, inet.Bytes(v, b))
		}
	}
}

func TestPrefixes(t *testing.T) { // P10.3
	rnd := rand.New(rand.NewSource(11))
	for i := range 2000 {
		version := 4 + i%2*2
		a := random(rnd, version, some[i%len(some)])
		b := random(rnd, version, a)
		common := inet.Common(version, a, b)
		for n := -1; n <= inet.Bits(version)+1; n++ {
			if got := inet.In(version, a, b, n); got != (n <= common || a == b) {
				t.Errorf("In(%d, %x, %x, %d) = %t, Common is %d", version, a, b, n, got, common)
			}
		}
	}
}

func TestSameOrder(t *testing.T) { // P10.3
	rnd := rand.New(rand.NewSource(12))
	for _, version := range []int{4, 6} {
		l := slices.Clone(some)
		if version == 4 {
			l = slices.DeleteFunc(l, func(a api.Addr) bool { return !inet.Right(4, a) })
		}
		for range 200 {
			l = append(l, random(rnd, version, l[rnd.Intn(len(l))]))
		}
		for _, a := range l {
			for _, b := range l {
				order := bytes.Compare([]byte(inet.Bytes(version, a)), []byte(inet.Bytes(version, b)))
				if inet.Less(a, b) != (order < 0) || inet.Less(b, a) != (order > 0) {
					t.Errorf("version %d: Less(%x, %x), bytes compare %d", version, a, b, order)
				}
			}
		}
	}
}
