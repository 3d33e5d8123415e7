package octets_test

import (
	"bytes"
	"errors"
	"math"
	"math/big"
	"math/rand"
	"runtime"
	"strings"
	"testing"

	"flashlock/api"
	"flashlock/octets"
)

const oneNaN = 0x7ff8000000000000

var ints = []int{
	math.MinInt, math.MinInt + 1, -1 << 62, -1<<62 - 1, -65537, -65536, -8193, -8192, -129, -128, -65, -64, -63, -3, -2, -1,
	0, 1, 2, 3, 63, 64, 65, 127, 128, 255, 256, 8191, 8192, 65535, 65536, 1<<32 - 1, 1 << 32, 1<<62 - 1, 1 << 62, math.MaxInt - 1, math.MaxInt,
}

var floats = []float64{
	0, math.Copysign(0, -1), 1, -1, 0.5, 1.0 / 3, math.SmallestNonzeroFloat64, -math.SmallestNonzeroFloat64,
	math.MaxFloat64, -math.MaxFloat64, math.Inf(1), math.Inf(-1), math.Float64frombits(oneNaN),
}

// reads calls f on s and asks for its error and the bytes that are left.
func reads(t *testing.T, s string, want api.Errno, left int, f func(r *octets.Reader)) {
	t.Helper()
	at := -1
	e := octets.Try(s, func(r *octets.Reader) {
		f(r)
		at = r.Left()
	})
	if e != want {
		t.Errorf("Try(%x) = %d, want %d", s, e, want)
	}
	if want != api.OK {
		left = -1 // abandoned: f does not go on
	}
	if at != left {
		t.Errorf("Try(%x) leaves %d, want %d", s, at, left)
	}
}

// fails asks for the error of f on s.
func fails(t *testing.T, s string, want api.Errno, f func(r *octets.Reader)) {
	t.Helper()
	reads(t, s, want, -1, f)
}

func TestTry(t *testing.T) { // P9.1
	calls := 0
	if e := octets.Try("ab", func(r *octets.Reader) { calls++ }); e != api.OK || calls != 1 {
		t.Errorf("Try = %d after %d calls", e, calls)
	}
	for _, s := range []string{"", "ab"} {
		if e := octets.Try(s, nil); e != api.ErrArg {
			t.Errorf("Try(%q, nil) = %d", s, e)
		}
	}
	reads(t, "", api.OK, 0, func(r *octets.Reader) {})
	reads(t, "abc", api.OK, 3, func(r *octets.Reader) {})
	if e := octets.Try("x", func(r *octets.Reader) { r.U16() }); e != api.ErrShort {
		t.Errorf("Try with U16 on one byte = %d", e)
	}
}

func TestTryAbandons(t *testing.T) { // P9.1
	var marks []string
	e := octets.Try("a", func(r *octets.Reader) {
		defer func() { marks = append(marks, "deferred") }()
		r.U8()
		marks = append(marks, "first")
		r.U8()
		marks = append(marks, "second")
	})
	if got := strings.Join(marks, " "); e != api.ErrShort || got != "first deferred" {
		t.Errorf("Try = %d: %s", e, got)
	}
}

// caught returns what f panics with.
func caught(f func()) (x any) {
	defer func() { x = recover() }()
	f()
	return nil
}

func TestOtherPanicsContinue(t *testing.T) { // P9.1
	own := errors.New("own")
	for _, want := range []any{"text", 7, own, api.ErrShort, api.OK} {
		got := caught(func() {
			octets.Try("a", func(r *octets.Reader) {
				r.U8()
				panic(want)
			})
		})
		if got != want {
			t.Errorf("panic with %v continues as %v", want, got)
		}
	}
	got := caught(func() {
		octets.Try("a", func(r *octets.Reader) {
			var l []int
			l[r.Left()]++
		})
	})
	if _, ok := got.(runtime.Error); !ok {
		t.Errorf("a run-time error continues as %v", got)
	}
	got = caught(func() { octets.Try("a", func(r *octets.Reader) { panic(nil) }) })
	if _, ok := got.(*runtime.PanicNilError); !ok {
		t.Errorf("panic with nil continues as %v", got)
	}
	got = caught(func() {
		octets.Try("a", func(r *octets.Reader) {
			defer panic("later")
			r.U16()
		})
	})
	if got != "later" {
		t.Errorf("a panic in place of the failure continues as %v", got)
	}
}

func TestGoexitGoesOn(t *testing.T) { // P9.1
	done := make(chan bool)
	returned := false
	go func() {
		defer close(done)
		octets.Try("a", func(r *octets.Reader) { runtime.Goexit() })
		returned = true
	}()
	<-done
	if returned {
		t.Error("Try returned though its goroutine ended")
	}
}

func TestTryInTry(t *testing.T) { // P9.1
	inner := api.Errno(-1)
	reads(t, "ab", api.OK, 1, func(r *octets.Reader) {
		inner = octets.Try("c", func(q *octets.Reader) { q.U16() })
		r.U8()
	})
	if inner != api.ErrShort {
		t.Errorf("the inner Try = %d", inner)
	}
	// The outer reader fails: that is the outer Try's error, and the inner one does not return.
	inner = -1
	fails(t, "a", api.ErrLong, func(r *octets.Reader) {
		inner = octets.Try("c", func(q *octets.Reader) { r.End() })
	})
	if inner != -1 {
		t.Errorf("the inner Try = %d", inner)
	}
}

func TestFixedNumbers(t *testing.T) { // P9.2
	s := "\x01\x02\x03\x04\x05\x06\x07\x08\x09"
	reads(t, s, api.OK, 8, func(r *octets.Reader) {
		if n := r.U8(); n != 1 {
			t.Errorf("U8 = %x", n)
		}
	})
	reads(t, s, api.OK, 7, func(r *octets.Reader) {
		if n := r.U16(); n != 0x0102 {
			t.Errorf("U16 = %x", n)
		}
	})
	reads(t, s, api.OK, 5, func(r *octets.Reader) {
		if n := r.U32(); n != 0x01020304 {
			t.Errorf("U32 = %x", n)
		}
	})
	reads(t, s, api.OK, 1, func(r *octets.Reader) {
		if n := r.U64(); n != 0x0102030405060708 {
			t.Errorf("U64 = %x", n)
		}
	})
	reads(t, strings.Repeat("\xff", 15), api.OK, 0, func(r *octets.Reader) {
		a, b, c, d := r.U8(), r.U16(), r.U32(), r.U64()
		if a != 255 || b != 65535 || c != 1<<32-1 || d != math.MaxUint64 {
			t.Errorf("%x, %x, %x, %x", a, b, c, d)
		}
	})
}

func TestFixedNumbersShort(t *testing.T) { // P9.2
	for size, read := range map[int]func(r *octets.Reader){
		1: func(r *octets.Reader) { r.U8() },
		2: func(r *octets.Reader) { r.U16() },
		4: func(r *octets.Reader) { r.U32() },
		8: func(r *octets.Reader) { r.U64() },
	} {
		for n := range size {
			fails(t, strings.Repeat("a", n), api.ErrShort, read)
		}
		reads(t, strings.Repeat("a", size), api.OK, 0, read)
	}
	for n := range 8 {
		fails(t, strings.Repeat("\xff", n), api.ErrShort, func(r *octets.Reader) { r.Float() })
	}
	fails(t, "", api.ErrShort, func(r *octets.Reader) { r.Bool() })
}

func TestTake(t *testing.T) { // P9.2
	reads(t, "abcde", api.OK, 0, func(r *octets.Reader) {
		a, b, c, d := r.Take(2), r.Take(0), r.Take(3), r.Take(0)
		if a != "ab" || b != "" || c != "cde" || d != "" {
			t.Errorf("%q, %q, %q, %q", a, b, c, d)
		}
	})
	for _, n := range []int{-1, -5, math.MinInt} {
		fails(t, "abc", api.ErrRange, func(r *octets.Reader) { r.Take(n) })
		fails(t, "", api.ErrRange, func(r *octets.Reader) { r.Take(n) })
	}
	for _, n := range []int{4, 5, math.MaxInt} {
		fails(t, "abc", api.ErrShort, func(r *octets.Reader) { r.Take(n) })
		fails(t, "zabc", api.ErrShort, func(r *octets.Reader) {
			r.U8()
			r.Take(n)
		})
	}
}

func TestFloat(t *testing.T) { // P9.2
	for _, x := range floats {
		bits := math.Float64bits(x)
		s := string(octets.PutU64(nil, bits)) + "z"
		reads(t, s, api.OK, 1, func(r *octets.Reader) {
			if got := math.Float64bits(r.Float()); got != bits {
				t.Errorf("Float = %x, want %x", got, bits)
			}
		})
	}
	for _, bits := range []uint64{0x7ff8000000000001, 0x7ff0000000000001, 0x7ff7ffffffffffff, 0x7fffffffffffffff, 0xfff8000000000000, 0xfff0000000000001, math.MaxUint64} {
		fails(t, string(octets.PutU64(nil, bits)), api.ErrFloat, func(r *octets.Reader) { r.Float() })
	}
}

func TestBool(t *testing.T) { // P9.2
	for n := range 256 {
		s := string([]byte{byte(n), 'z'})
		if n > 1 {
			fails(t, s, api.ErrForm, func(r *octets.Reader) { r.Bool() })
			continue
		}
		reads(t, s, api.OK, 1, func(r *octets.Reader) {
			if got := r.Bool(); got != (n == 1) {
				t.Errorf("Bool of %d = %t", n, got)
			}
		})
	}
}

func TestNeed(t *testing.T) { // P9.2
	for _, e := range []api.Errno{api.OK, api.ErrArg, api.ErrSum, -1, 1000} {
		reads(t, "ab", api.OK, 2, func(r *octets.Reader) { r.Need(true, e) })
	}
	for _, e := range []api.Errno{api.ErrArg, api.ErrRange, api.ErrSum, -1, 1000} {
		fails(t, "ab", e, func(r *octets.Reader) { r.Need(false, e) })
	}
	fails(t, "ab", api.ErrArg, func(r *octets.Reader) { r.Need(false, api.OK) })
}

func TestEnd(t *testing.T) { // P9.2
	reads(t, "", api.OK, 0, (*octets.Reader).End)
	reads(t, "a", api.OK, 0, func(r *octets.Reader) {
		r.U8()
		r.End()
	})
	fails(t, "a", api.ErrLong, (*octets.Reader).End)
	fails(t, "ab", api.ErrLong, func(r *octets.Reader) {
		r.U8()
		r.End()
	})
}

// variable reads by the chapter's words, with an unsigned number of any length.
func variable(s string) (n, left int, e api.Errno) {
	long := len(s) >= 10
	end := -1
	for i := range len(s) {
		if s[i] < 128 && end < 0 {
			end = i
		}
		if i < 10 && s[i] < 128 {
			long = false
		}
	}
	if long {
		return 0, 0, api.ErrForm
	}
	if end < 0 {
		return 0, 0, api.ErrShort
	}
	u := new(big.Int)
	for i := end; i >= 0; i-- {
		u.Lsh(u, 7)
		u.Or(u, big.NewInt(int64(s[i]&127)))
	}
	if u.BitLen() > 64 || end > 0 && s[end] == 0 {
		return 0, 0, api.ErrForm
	}
	odd := u.Bit(0) == 1
	u.Rsh(u, 1)
	if odd {
		u.Not(u)
	}
	return int(u.Int64()), len(s) - end - 1, api.OK
}

func readsVar(t *testing.T, s string) {
	t.Helper()
	n, left, e := variable(s)
	reads(t, s, e, left, func(r *octets.Reader) {
		if got := r.Var(); got != n {
			t.Errorf("Var of %x = %d, want %d", s, got, n)
		}
	})
}

func TestVar(t *testing.T) { // P9.3
	for _, c := range []struct {
		s string
		n int
	}{
		{"\x00", 0}, {"\x01", -1}, {"\x02", 1}, {"\x03", -2}, {"\x05", -3}, {"\x7f", -64}, {"\x80\x01", 64}, {"\x81\x01", -65},
		{"\xfe\xff\xff\xff\xff\xff\xff\xff\xff\x01", math.MaxInt}, {"\xff\xff\xff\xff\xff\xff\xff\xff\xff\x01", math.MinInt},
	} {
		reads(t, c.s, api.OK, 0, func(r *octets.Reader) {
			if got := r.Var(); got != c.n {
				t.Errorf("Var of %x = %d, want %d", c.s, got, c.n)
			}
		})
		readsVar(t, c.s)
		readsVar(t, c.s+"\x00")
		readsVar(t, c.s+"\xff")
	}
}

func TestVarErrors(t *testing.T) { // P9.3
	read := func(r *octets.Reader) { r.Var() }
	for n := range 10 {
		fails(t, strings.Repeat("\x80", n), api.ErrShort, read)
		fails(t, strings.Repeat("\xff", n), api.ErrShort, read)
	}
	for n := 10; n < 13; n++ {
		fails(t, strings.Repeat("\x80", n), api.ErrForm, read)
		fails(t, strings.Repeat("\xff", n), api.ErrForm, read)
		fails(t, strings.Repeat("\xff", n)+"\x01", api.ErrForm, read)
	}
	for n := 1; n < 10; n++ {
		fails(t, strings.Repeat("\x80", n)+"\x00", api.ErrForm, read)
		fails(t, strings.Repeat("\xff", n)+"\x00\x05", api.ErrForm, read)
	}
	nine := strings.Repeat("\x80", 9)
	reads(t, nine+"\x01", api.OK, 0, read)
	for last := 2; last < 128; last++ {
		fails(t, nine+string([]byte{byte(last)}), api.ErrForm, read)
	}
}

func TestVarOfAnyBytes(t *testing.T) { // P9.3
	r := rand.New(rand.NewSource(1))
	for range 20000 {
		b := make([]byte, r.Intn(13))
		for i := range b {
			switch r.Intn(8) {
			case 0:
				b[i] = byte(r.Intn(3))
			case 1:
				b[i] = byte(r.Intn(128))
			default:
				b[i] = byte(128 + r.Intn(128))
			}
		}
		readsVar(t, string(b))
	}
}

func TestVarGoesOn(t *testing.T) { // P9.3
	reads(t, "\x80\x01\x05\x00z", api.OK, 1, func(r *octets.Reader) {
		a, b, c := r.Var(), r.Var(), r.Var()
		if a != 64 || b != -3 || c != 0 {
			t.Errorf("%d, %d, %d", a, b, c)
		}
	})
}

func TestPut(t *testing.T) { // P9.4
	for _, c := range []struct {
		got  []byte
		want string
	}{
		{octets.PutU16(nil, 0x0102), "\x01\x02"},
		{octets.PutU16(nil, 0x70102), "\x01\x02"},
		{octets.PutU16(nil, -1), "\xff\xff"},
		{octets.PutU16(nil, math.MinInt), "\x00\x00"},
		{octets.PutU32(nil, 0x01020304), "\x01\x02\x03\x04"},
		{octets.PutU32(nil, 0x7701020304), "\x01\x02\x03\x04"},
		{octets.PutU32(nil, -2), "\xff\xff\xff\xfe"},
		{octets.PutU32(nil, math.MinInt), "\x00\x00\x00\x00"},
		{octets.PutU64(nil, 0x0102030405060708), "\x01\x02\x03\x04\x05\x06\x07\x08"},
		{octets.PutU64(nil, math.MaxUint64), "\xff\xff\xff\xff\xff\xff\xff\xff"},
		{octets.PutVar(nil, -3), "\x05"},
		{octets.PutVar(nil, 0), "\x00"},
		{octets.PutVar(nil, 63), "\x7e"},
		{octets.PutVar(nil, -64), "\x7f"},
		{octets.PutVar(nil, 64), "\x80\x01"},
		{octets.PutVar(nil, math.MaxInt), "\xfe\xff\xff\xff\xff\xff\xff\xff\xff\x01"},
		{octets.PutVar(nil, math.MinInt), "\xff\xff\xff\xff\xff\xff\xff\xff\xff\x01"},
		{octets.PutFloat(nil, 1), "\x3f\xf0\x00\x00\x00\x00\x00\x00"},
		{octets.PutFloat(nil, math.Copysign(0, -1)), "\x80\x00\x00\x00\x00\x00\x00\x00"},
		{octets.PutFloat(nil, math.Inf(-1)), "\xff\xf0\x00\x00\x00\x00\x00\x00"},
		{octets.PutFloat(nil, math.NaN()), "\x7f\xf8\x00\x00\x00\x00\x00\x00"},
		{octets.PutFloat(nil, math.Float64frombits(math.MaxUint64)), "\x7f\xf8\x00\x00\x00\x00\x00\x00"},
		{octets.PutBool(nil, false), "\x00"},
		{octets.PutBool(nil, true), "\x01"},
	} {
		if string(c.got) != c.want {
			t.Errorf("%x, want %x", c.got, c.want)
		}
	}
}

func TestPutFollows(t *testing.T) { // P9.4
	for _, c := range []struct {
		put  func(b []byte) []byte
		want string
	}{
		{func(b []byte) []byte { return octets.PutU16(b, 1) }, "\x00\x01"},
		{func(b []byte) []byte { return octets.PutU32(b, 1) }, "\x00\x00\x00\x01"},
		{func(b []byte) []byte { return octets.PutU64(b, 1) }, "\x00\x00\x00\x00\x00\x00\x00\x01"},
		{func(b []byte) []byte { return octets.PutVar(b, 64) }, "\x80\x01"},
		{func(b []byte) []byte { return octets.PutVar(b, 1) }, "\x02"},
		{func(b []byte) []byte { return octets.PutFloat(b, 0) }, "\x00\x00\x00\x00\x00\x00\x00\x00"},
		{func(b []byte) []byte { return octets.PutFloat(b, math.NaN()) }, "\x7f\xf8\x00\x00\x00\x00\x00\x00"},
		{func(b []byte) []byte { return octets.PutBool(b, true) }, "\x01"},
		{func(b []byte) []byte { return octets.PutBool(b, false) }, "\x00"},
	} {
		for _, head := range []string{"", "a", "abcdefghijkl"} {
			// What stands in the spare capacity belongs to the caller too.
			whole := bytes.Repeat([]byte{'#'}, 40)
			copy(whole, head)
			kept := bytes.Clone(whole)
			got := c.put(whole[:len(head)])
			if string(got) != head+c.want {
				t.Errorf("%q becomes %q, want %q", head, got, head+c.want)
			}
			for i := range got {
				got[i]++
			}
			if !bytes.Equal(whole, kept) {
				t.Errorf("the argument became %q", whole)
			}
		}
		if got := c.put([]byte{}); string(got) != c.want {
			t.Errorf("empty becomes %q, want %q", got, c.want)
		}
	}
}

func TestReadBack(t *testing.T) { // P9.5
	r := rand.New(rand.NewSource(2))
	numbers := append([]int{}, ints...)
	for range 500 {
		numbers = append(numbers, int(r.Uint64())>>r.Intn(64))
	}
	for _, n := range numbers {
		var b []byte
		b = octets.PutU16(b, n)
		b = octets.PutU32(b, n)
		b = octets.PutU64(b, uint64(n))
		b = octets.PutVar(b, n)
		b = octets.PutBool(b, n < 0)
		reads(t, string(b), api.OK, 0, func(r *octets.Reader) {
			if r.U16() != n&(1<<16-1) || r.U32() != n&(1<<32-1) || r.U64() != uint64(n) || r.Var() != n || r.Bool() != (n < 0) {
				t.Errorf("%d is not read back from %x", n, b)
			}
			r.End()
		})
	}
	for _, x := range floats {
		reads(t, string(octets.PutFloat(nil, x)), api.OK, 0, func(r *octets.Reader) {
			if got := r.Float(); math.Float64bits(got) != math.Float64bits(x) {
				t.Errorf("%v is read back as %v", x, got)
			}
		})
	}
}

func TestOneEncoding(t *testing.T) { // P9.5
	r := rand.New(rand.NewSource(3))
	for range 5000 {
		b := make([]byte, 1+r.Intn(11))
		for i := range b {
			b[i] = byte(r.Intn(256)) | byte(r.Intn(2)<<7)
		}
		octets.Try(string(b), func(r *octets.Reader) {
			n := r.Var()
			used := b[:len(b)-r.Left()]
			if again := octets.PutVar(nil, n); !bytes.Equal(again, used) {
				t.Errorf("%x and %x are both %d", used, again, n)
			}
		})
		octets.Try(string(b), func(r *octets.Reader) {
			x := r.Float()
			if again := octets.PutFloat(nil, x); !bytes.Equal(again, b[:8]) {
				t.Errorf("%x and %x are both %v", b[:8], again, x)
			}
		})
	}
}
