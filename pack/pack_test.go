package pack_test

import (
	"hash/crc32"
	"math"
	"math/rand"
	"slices"
	"strings"
	"testing"

	"flashlock/api"
	"flashlock/class"
	"flashlock/config"
	"flashlock/edit"
	"flashlock/pack"
)

var (
	negZero  = math.Copysign(0, -1)
	otherNaN = math.Float64frombits(0xfff8000000000abc)
	wild     = []int{math.MinInt, math.MinInt + 1, math.MinInt32, -65536, -65, -64, -1, 0, 1, 2, 63, 64, 65, 127, 128, 8191, 8192, 65535, 65536, math.MaxInt32, 1 << 60, math.MaxInt - 1, math.MaxInt}
	floats   = []float64{0, negZero, 1, -1, 0.1, 0.5, math.Inf(1), math.Inf(-1), math.NaN(), otherNaN, math.SmallestNonzeroFloat64, math.MaxFloat64}
)

// number returns the bytes of a variable-length integer, worked out by division.
func number(n int) string {
	u := 2 * uint64(n)
	if n < 0 {
		u = 2*(-uint64(n)) - 1
	}
	var b strings.Builder
	for ; u > 127; u /= 128 {
		b.WriteByte(byte(u%128 + 128))
	}
	b.WriteByte(byte(u))
	return b.String()
}

func numbers(l ...int) string {
	var b strings.Builder
	for _, n := range l {
		b.WriteString(number(n))
	}
	return b.String()
}

// fixed returns the eight bytes of u.
func fixed(u uint64) string {
	var b strings.Builder
	for shift := 56; shift >= 0; shift -= 8 {
		b.WriteByte(byte(u >> shift))
	}
	return b.String()
}

func bits(x float64) string {
	if x != x {
		return fixed(0x7ff8000000000000)
	}
	return fixed(math.Float64bits(x))
}

func flag(is bool) string {
	if is {
		return "\x01"
	}
	return "\x00"
}

func classBytes(c api.Class) string {
	return numbers(c.ID, c.Parent) + bits(c.Share) +
		numbers(c.Prio, c.Quantum, c.Limit, c.Weight, c.MinIdle, c.MaxIdle) + flag(c.Bounded) + flag(c.Isolated)
}

func filterBytes(f api.Filter) string {
	return numbers(f.ID, f.Prio, f.Version) + fixed(f.Src.Hi) + fixed(f.Src.Lo) + fixed(f.Dst.Hi) + fixed(f.Dst.Lo) +
		numbers(f.SrcLen, f.DstLen, f.Proto, f.SrcPorts.Low, f.SrcPorts.High, f.DstPorts.Low, f.DstPorts.High, f.Leaf)
}

func configBytes(c api.Config) string {
	s := numbers(c.Tpb, c.Rule, c.Default, len(c.Classes))
	for _, x := range c.Classes {
		s += classBytes(x)
	}
	s += number(len(c.Filters))
	for _, x := range c.Filters {
		s += filterBytes(x)
	}
	return s
}

// distinct returns a class, a filter and an edit, all of whose fields are different.
func distinct() (api.Class, api.Filter, api.Edit) {
	c := api.Class{ID: 1, Parent: 20, Share: 0.3, Prio: 300, Quantum: -4, Limit: 5000, Weight: -600, MinIdle: 1 << 40, MaxIdle: -1 << 41, Isolated: true}
	f := api.Filter{
		ID: 7, Prio: -80, Version: 900, Src: api.Addr{Hi: 10, Lo: 1 << 63}, Dst: api.Addr{Hi: math.MaxUint64, Lo: 12},
		SrcLen: 130, DstLen: -14, Proto: 15, SrcPorts: api.Span{Low: 16, High: -17}, DstPorts: api.Span{Low: 1800, High: 19}, Leaf: 200,
	}
	return c, f, api.Edit{Class: c, Filter: f, ID: 2100, To: -22}
}

// sample returns a configuration of three classes and two filters.
func sample() api.Config {
	c, f, _ := distinct()
	other, narrow := c, f
	other.ID, other.Share, other.Bounded, other.Isolated = 2, negZero, true, false
	narrow.ID, narrow.Leaf = 5, math.MinInt
	return api.Config{Tpb: 9, Rule: -2, Default: 70000, Classes: []api.Class{c, other, {}}, Filters: []api.Filter{f, narrow}}
}

// equal reports whether both have the same elements in the same order.
func equal(a, b api.Config) bool {
	return a.Tpb == b.Tpb && a.Rule == b.Rule && a.Default == b.Default &&
		slices.EqualFunc(a.Classes, b.Classes, class.Same) && slices.Equal(a.Filters, b.Filters)
}

func TestExamples(t *testing.T) { // P24.1, P24.3
	if got := pack.PutEdit(api.Edit{Op: api.SetRule, ID: 2}); got != "\x10\x04" {
		t.Errorf("PutEdit = %q", got)
	}
	if got := pack.Crc("123456789"); got != 0xcbf43926 {
		t.Errorf("Crc = %x", got)
	}
}

// classes checks a class and its bytes both ways.
func classes(t *testing.T, c api.Class) {
	t.Helper()
	s := classBytes(c)
	if got := pack.PutClass(c); got != s {
		t.Errorf("PutClass(%+v) = %q, not %q", c, got, s)
	}
	if got, e := pack.GetClass(s); e != api.OK || !class.Same(got, c) {
		t.Errorf("GetClass(%q) = %+v, %d, not %+v", s, got, e, c)
	}
}

func TestClass(t *testing.T) { // P24.1, P24.2, P24.4
	c, _, _ := distinct()
	classes(t, c)
	classes(t, api.Class{})
	if got, want := pack.PutClass(api.Class{}), strings.Repeat("\x00", 18); got != want {
		t.Errorf("PutClass of zero = %q", got)
	}
	want := "\x02\x28" + "\x3f\xd3\x33\x33\x33\x33\x33\x33" + "\xd8\x04\x07\x90\x4e\xaf\x09" +
		"\x80\x80\x80\x80\x80\x40" + "\xff\xff\xff\xff\xff\x7f" + "\x00\x01"
	if got := pack.PutClass(c); got != want {
		t.Errorf("PutClass = %q, not %q", got, want)
	}
	for i, n := range wild {
		m := wild[len(wild)-1-i]
		classes(t, api.Class{ID: n, Parent: m, Share: floats[i%len(floats)], Prio: m, Quantum: n, Limit: m, Weight: n, MinIdle: m, MaxIdle: n, Bounded: i%2 == 0})
	}
	for _, set := range []func(c *api.Class){
		func(c *api.Class) { c.ID = -300 }, func(c *api.Class) { c.Parent = -300 }, func(c *api.Class) { c.Share = -300 },
		func(c *api.Class) { c.Prio = -300 }, func(c *api.Class) { c.Quantum = -300 }, func(c *api.Class) { c.Limit = -300 },
		func(c *api.Class) { c.Weight = -300 }, func(c *api.Class) { c.MinIdle = -300 }, func(c *api.Class) { c.MaxIdle = -300 },
		func(c *api.Class) { c.Bounded = true }, func(c *api.Class) { c.Isolated = true },
	} {
		var one api.Class
		set(&one)
		classes(t, one)
	}
}

func TestShares(t *testing.T) { // P24.1, P24.4: every NaN is written as one, the zeros as two
	for _, x := range floats {
		classes(t, api.Class{Share: x})
		classes(t, api.Class{ID: 9, Share: x, Isolated: true})
	}
	if pack.PutClass(api.Class{Share: otherNaN}) != pack.PutClass(api.Class{Share: math.NaN()}) {
		t.Error("two NaNs differ")
	}
	if pack.PutClass(api.Class{Share: 0}) == pack.PutClass(api.Class{Share: negZero}) {
		t.Error("two zeros do not differ")
	}
	for _, u := range []uint64{0x7ff8000000000001, 0x7ff0000000000001, 0xfff8000000000000, math.MaxUint64} {
		s := "\x00\x00" + fixed(u) + strings.Repeat("\x00", 8)
		noClass(t, s, api.ErrFloat)
		noClass(t, s[:10], api.ErrFloat)
		noClass(t, s[:9], api.ErrShort)
	}
}

func noClass(t *testing.T, s string, want api.Errno) {
	t.Helper()
	if c, e := pack.GetClass(s); e != want || c != (api.Class{}) {
		t.Errorf("GetClass(%q) = %+v, %d, not %d", s, c, e, want)
	}
}

func noFilter(t *testing.T, s string, want api.Errno) {
	t.Helper()
	if f, e := pack.GetFilter(s); e != want || f != (api.Filter{}) {
		t.Errorf("GetFilter(%q) = %+v, %d, not %d", s, f, e, want)
	}
}

func noEdit(t *testing.T, s string, want api.Errno) {
	t.Helper()
	if x, e := pack.GetEdit(s); e != want || x != (api.Edit{}) {
		t.Errorf("GetEdit(%q) = %+v, %d, not %d", s, x, e, want)
	}
}

func noConfig(t *testing.T, s string, want api.Errno) {
	t.Helper()
	c, e := pack.Get(s)
	if e != want || c.Tpb != 0 || c.Rule != 0 || c.Default != 0 || len(c.Classes) != 0 || len(c.Filters) != 0 {
		t.Errorf("Get(%q) = %+v, %d, not %d", s, c, e, want)
	}
}

// filters checks a filter and its bytes both ways.
func filters(t *testing.T, f api.Filter) {
	t.Helper()
	s := filterBytes(f)
	if got := pack.PutFilter(f); got != s {
		t.Errorf("PutFilter(%+v) = %q, not %q", f, got, s)
	}
	if got, e := pack.GetFilter(s); e != api.OK || got != f {
		t.Errorf("GetFilter(%q) = %+v, %d, not %+v", s, got, e, f)
	}
}

func TestFilter(t *testing.T) { // P24.1, P24.2, P24.4
	_, f, _ := distinct()
	filters(t, f)
	filters(t, api.Filter{})
	if got, want := pack.PutFilter(api.Filter{}), strings.Repeat("\x00", 43); got != want {
		t.Errorf("PutFilter of zero = %q", got)
	}
	for i, n := range wild {
		m, u := wild[len(wild)-1-i], uint64(wild[(i+7)%len(wild)])
		filters(t, api.Filter{
			ID: n, Prio: m, Version: n, Src: api.Addr{Hi: u, Lo: ^u}, Dst: api.Addr{Hi: uint64(n), Lo: u}, SrcLen: m, DstLen: n, Proto: m,
			SrcPorts: api.Span{Low: n, High: m}, DstPorts: api.Span{Low: m, High: n}, Leaf: m,
		})
	}
	for _, set := range []func(f *api.Filter){
		func(f *api.Filter) { f.ID = 300 }, func(f *api.Filter) { f.Prio = 300 }, func(f *api.Filter) { f.Version = 300 },
		func(f *api.Filter) { f.Src.Hi = 300 }, func(f *api.Filter) { f.Src.Lo = 300 },
		func(f *api.Filter) { f.Dst.Hi = 300 }, func(f *api.Filter) { f.Dst.Lo = 300 },
		func(f *api.Filter) { f.SrcLen = 300 }, func(f *api.Filter) { f.DstLen = 300 }, func(f *api.Filter) { f.Proto = 300 },
		func(f *api.Filter) { f.SrcPorts.Low = 300 }, func(f *api.Filter) { f.SrcPorts.High = 300 },
		func(f *api.Filter) { f.DstPorts.Low = 300 }, func(f *api.Filter) { f.DstPorts.High = 300 }, func(f *api.Filter) { f.Leaf = 300 },
	} {
		var one api.Filter
		set(&one)
		filters(t, one)
	}
}

func TestEdit(t *testing.T) { // P24.1, P24.2, P24.4: only what the operation uses is written
	c, f, e := distinct()
	for op, want := range map[int]struct {
		s string
		e api.Edit
	}{
		api.AddClass:   {"\x02" + classBytes(c), api.Edit{Class: c}},
		api.SetClass:   {"\x04" + classBytes(c), api.Edit{Class: c}},
		api.DropClass:  {"\x06" + number(2100), api.Edit{ID: 2100}},
		api.AddFilter:  {"\x08" + filterBytes(f), api.Edit{Filter: f}},
		api.SetFilter:  {"\x0a" + filterBytes(f), api.Edit{Filter: f}},
		api.DropFilter: {"\x0c" + number(2100), api.Edit{ID: 2100}},
		api.SetDefault: {"\x0e" + number(2100), api.Edit{ID: 2100}},
		api.SetRule:    {"\x10" + number(2100), api.Edit{ID: 2100}},
		api.Move:       {"\x12" + numbers(2100, -22), api.Edit{ID: 2100, To: -22}},
	} {
		e.Op, want.e.Op = op, op
		if got := pack.PutEdit(e); got != want.s {
			t.Errorf("PutEdit of operation %d = %q, not %q", op, got, want.s)
		}
		if got, wrong := pack.GetEdit(want.s); wrong != api.OK || !edit.Same(got, want.e) {
			t.Errorf("GetEdit(%q) = %+v, %d", want.s, got, wrong)
		}
		for _, n := range wild {
			x := api.Edit{Op: op, Class: api.Class{ID: n, Share: math.NaN()}, Filter: api.Filter{Leaf: n}, ID: n, To: -n}
			if got, wrong := pack.GetEdit(pack.PutEdit(x)); wrong != api.OK || pack.PutEdit(got) != pack.PutEdit(x) {
				t.Errorf("operation %d with %d: %+v, %d", op, n, got, wrong)
			}
		}
	}
}

func TestNoOperation(t *testing.T) { // P24.1, P24.2
	_, _, e := distinct()
	for _, op := range []int{0, 10, -1, -9, 11, 64, 128, math.MinInt, math.MaxInt} {
		e.Op = op
		s := pack.PutEdit(e)
		if s != number(op) {
			t.Errorf("PutEdit of operation %d = %q", op, s)
		}
		noEdit(t, s, api.ErrKind)
		noEdit(t, s+"\x02", api.ErrKind)
		noEdit(t, s+"\xff", api.ErrKind)
	}
	noEdit(t, "", api.ErrShort)
	noEdit(t, "\x80", api.ErrShort)
	noEdit(t, "\x80\x00", api.ErrForm)
}

// encodings returns the bytes of some values of each kind, with what decodes them.
func encodings() []struct {
	s   string
	get func(t *testing.T, s string, want api.Errno)
} {
	type encoding = struct {
		s   string
		get func(t *testing.T, s string, want api.Errno)
	}
	c, f, e := distinct()
	l := []encoding{
		{pack.PutClass(c), noClass}, {pack.PutClass(api.Class{}), noClass},
		{pack.PutFilter(f), noFilter}, {pack.PutFilter(api.Filter{}), noFilter},
		{pack.Put(sample()), noConfig}, {pack.Put(api.Config{}), noConfig},
	}
	for op := 1; op <= 9; op++ {
		e.Op = op
		l = append(l, encoding{pack.PutEdit(e), noEdit})
	}
	return l
}

func TestEarlyEnd(t *testing.T) { // P24.2
	for _, x := range encodings() {
		for n := range len(x.s) {
			x.get(t, x.s[:n], api.ErrShort)
		}
	}
}

func TestRemainder(t *testing.T) { // P24.2
	for _, x := range encodings() {
		for _, more := range []string{"\x00", "\x01", "\xff", "\x80\x00", x.s} {
			x.get(t, x.s+more, api.ErrLong)
		}
	}
}

func TestFirstError(t *testing.T) { // P24.2
	zero := strings.Repeat("\x00", 16)
	endless := strings.Repeat("\xff", 10)
	// Numbers in a form that is not theirs, before anything else is wrong.
	for _, form := range []string{"\x80\x00", "\x81\x80\x00", endless, strings.Repeat("\xff", 9) + "\x02"} {
		for _, x := range encodings() {
			x.get(t, form+zero, api.ErrForm)
			x.get(t, form+endless, api.ErrForm)
		}
		noClass(t, "\x02"+form, api.ErrForm)
		noEdit(t, "\x06"+form, api.ErrForm)
		noEdit(t, "\x12\x02"+form, api.ErrForm)
		noConfig(t, "\x02\x00\x02"+form, api.ErrForm)
	}
	// A flag is 0 or 1.
	s := strings.Repeat("\x00", 16)
	noClass(t, s+"\x02\x00", api.ErrForm)
	noClass(t, s+"\x00\x02", api.ErrForm)
	noClass(t, s+"\xff", api.ErrForm)
	noClass(t, s+"\x00\x02\x00", api.ErrForm)
	noClass(t, s+"\x00\x01\x00", api.ErrLong)
	noEdit(t, "\x02"+s+"\x02\x00", api.ErrForm)
	noEdit(t, "\x04"+"\x00\x00"+fixed(math.MaxUint64)+s[10:]+"\x00\x02", api.ErrFloat)
}

func TestCounts(t *testing.T) { // P24.1, P24.2
	head := "\x02\x00\x02"
	for _, n := range []int{-1, -64, 65, 66, 128, math.MinInt, math.MaxInt} {
		noConfig(t, head+number(n), api.ErrFull)
		noConfig(t, head+number(n)+"\xff", api.ErrFull)
		noConfig(t, head+"\x00"+number(n), api.ErrFull)
		noConfig(t, head+"\x00"+number(n)+"\x80\x00", api.ErrFull)
		// The number of filters comes after the classes.
		noConfig(t, head+"\x02"+strings.Repeat("\x00", 16)+"\x02\x00"+number(n), api.ErrForm)
		noConfig(t, head+"\x02"+strings.Repeat("\x00", 18)+number(n), api.ErrFull)
	}
	for _, n := range []int{1, 2, 63, 64} {
		noConfig(t, head+number(n), api.ErrShort)
		noConfig(t, head+"\x00"+number(n), api.ErrShort)
	}
	for _, n := range []int{0, 1, 63, 64, 65, 200} {
		one := api.Config{Tpb: 1, Default: 1, Classes: make([]api.Class, n)}
		two := api.Config{Tpb: 1, Default: 1, Filters: make([]api.Filter, n)}
		both := api.Config{Tpb: 1, Default: 1, Classes: one.Classes, Filters: two.Filters}
		for _, c := range []api.Config{one, two, both} {
			s := configBytes(c)
			if pack.Put(c) != s {
				t.Errorf("Put of %d classes and %d filters", len(c.Classes), len(c.Filters))
			}
			if n > 64 {
				noConfig(t, s, api.ErrFull)
			} else if got, e := pack.Get(s); e != api.OK || !equal(got, c) {
				t.Errorf("Get of %d classes and %d filters: %d", len(c.Classes), len(c.Filters), e)
			}
		}
	}
}

func TestConfig(t *testing.T) { // P24.1, P24.2, P24.4
	for _, c := range []api.Config{{}, sample(), {Tpb: -1, Rule: math.MinInt, Default: math.MaxInt}, {Classes: []api.Class{}, Filters: []api.Filter{{}}}} {
		s := configBytes(c)
		if got := pack.Put(c); got != s {
			t.Errorf("Put = %q, not %q", got, s)
		}
		if got, e := pack.Get(s); e != api.OK || !equal(got, c) {
			t.Errorf("Get = %+v, %d, not %+v", got, e, c)
		}
	}
	if got := pack.Put(api.Config{Tpb: 1, Rule: 2, Default: 3}); got != "\x02\x04\x06\x00\x00" {
		t.Errorf("Put = %q", got)
	}
	// The lists stay in their order.
	c := sample()
	slices.Reverse(c.Classes)
	slices.Reverse(c.Filters)
	if got, e := pack.Get(pack.Put(c)); e != api.OK || !equal(got, c) || pack.Put(c) == pack.Put(sample()) {
		t.Error("another order")
	}
}

func TestOwnership(t *testing.T) { // P24.1, P24.2, P24.3
	c := sample()
	s := pack.Put(c)
	pack.Sum(c)
	if !equal(c, sample()) {
		t.Error("the argument is changed")
	}
	a, _ := pack.Get(s)
	b, _ := pack.Get(s)
	a.Classes[0].ID, a.Filters[0].ID = 99, 99
	if !equal(b, c) {
		t.Error("two results share memory")
	}
	c.Classes[0].ID = 50
	if s != pack.Put(sample()) || !equal(b, sample()) {
		t.Error("a result shares memory with an argument")
	}
}

func TestCrc(t *testing.T) { // P24.3
	for s, want := range map[string]uint32{
		"": 0, "a": 0xe8b7be43, "abc": 0x352441c2, "\x00": 0xd202ef8d, "\xff": 0xff000000,
		"\x00\x00\x00\x00": 0x2144df1c, "\xff\xff\xff\xff": 0xffffffff,
		"The quick brown fox jumps over the lazy dog": 0x414fa339,
	} {
		if got := pack.Crc(s); got != want {
			t.Errorf("Crc(%q) = %x, not %x", s, got, want)
		}
	}
	r := rand.New(rand.NewSource(24))
	for range 300 {
		b := make([]byte, r.Intn(100))
		r.Read(b)
		if got, want := pack.Crc(string(b)), crc32.ChecksumIEEE(b); got != want {
			t.Errorf("Crc(%q) = %x, not %x", b, got, want)
		}
	}
	for n := range 256 {
		if got, want := pack.Crc(string([]byte{byte(n)})), crc32.ChecksumIEEE([]byte{byte(n)}); got != want {
			t.Errorf("Crc of the byte %d = %x, not %x", n, got, want)
		}
	}
}

func TestSum(t *testing.T) { // P24.3, P24.4
	r := rand.New(rand.NewSource(3))
	c := sample()
	want := crc32.ChecksumIEEE([]byte(configBytes(config.Canon(c))))
	for range 30 {
		if got := pack.Sum(c); got != want {
			t.Fatalf("Sum = %x, not %x", got, want)
		}
		r.Shuffle(len(c.Classes), func(i, j int) { c.Classes[i], c.Classes[j] = c.Classes[j], c.Classes[i] })
		r.Shuffle(len(c.Filters), func(i, j int) { c.Filters[i], c.Filters[j] = c.Filters[j], c.Filters[i] })
	}
	if got := pack.Sum(api.Config{}); got != pack.Crc("\x00\x00\x00\x00\x00") {
		t.Errorf("Sum of zero = %x", got)
	}
	// NaNs are one, zeros are two, and every field counts.
	a, b := sample(), sample()
	a.Classes[0].Share, b.Classes[0].Share = math.NaN(), otherNaN
	if pack.Sum(a) != pack.Sum(b) {
		t.Error("two NaNs differ")
	}
	a.Classes[0].Share, b.Classes[0].Share = 0, negZero
	if pack.Sum(a) == pack.Sum(b) {
		t.Error("two zeros do not differ")
	}
	for i, change := range []func(c *api.Config){
		func(c *api.Config) { c.Tpb++ }, func(c *api.Config) { c.Rule++ }, func(c *api.Config) { c.Default++ },
		func(c *api.Config) { c.Classes[1].Limit++ }, func(c *api.Config) { c.Filters[1].Leaf++ },
		func(c *api.Config) { c.Classes = c.Classes[1:] }, func(c *api.Config) { c.Filters = c.Filters[1:] },
	} {
		d := sample()
		change(&d)
		if pack.Sum(d) == want {
			t.Error("no other sum after change", i)
		}
	}
	// Of elements with one ID, which no valid configuration has, the order counts.
	twins := api.Config{Classes: []api.Class{{ID: 1, Prio: 1}, {ID: 1}}}
	if pack.Sum(twins) != pack.Crc(pack.Put(twins)) {
		t.Error("twins are sorted")
	}
}

func randomClass(r *rand.Rand) api.Class {
	return api.Class{
		ID: wild[r.Intn(len(wild))], Parent: r.Intn(99), Share: floats[r.Intn(len(floats))], Prio: r.Intn(9), Quantum: int(r.Uint64() >> r.Intn(64)),
		Limit: wild[r.Intn(len(wild))], Weight: r.Intn(20), MinIdle: -r.Intn(1 << 40), MaxIdle: r.Intn(1 << 40), Bounded: r.Intn(2) == 0, Isolated: r.Intn(2) == 0,
	}
}

func randomFilter(r *rand.Rand) api.Filter {
	return api.Filter{
		ID: r.Intn(99), Prio: wild[r.Intn(len(wild))], Version: r.Intn(7), Src: api.Addr{Hi: r.Uint64(), Lo: r.Uint64()}, Dst: api.Addr{Lo: r.Uint64()},
		SrcLen: r.Intn(200), DstLen: -r.Intn(200), Proto: r.Intn(300), SrcPorts: api.Span{Low: r.Intn(70000), High: 9}, DstPorts: api.Span{High: r.Intn(70000)}, Leaf: r.Intn(99),
	}
}

func TestRoundTrips(t *testing.T) { // P24.4
	r := rand.New(rand.NewSource(4))
	for range 200 {
		c := api.Config{Tpb: r.Intn(1 << 21), Rule: r.Intn(4), Default: wild[r.Intn(len(wild))]}
		for range r.Intn(8) {
			c.Classes = append(c.Classes, randomClass(r))
		}
		for range r.Intn(8) {
			c.Filters = append(c.Filters, randomFilter(r))
		}
		s := configBytes(c)
		if pack.Put(c) != s {
			t.Fatalf("Put(%+v) = %q, not %q", c, pack.Put(c), s)
		}
		if got, e := pack.Get(s); e != api.OK || !equal(got, c) {
			t.Fatalf("Get(Put(%+v)) = %+v, %d", c, got, e)
		}
		classes(t, randomClass(r))
		filters(t, randomFilter(r))
	}
}

func TestDamaged(t *testing.T) { // P6, P24.2, P24.4: bytes that are decoded are the ones that are written
	r := rand.New(rand.NewSource(5))
	decoded := 0
	check := func(s, again string, e api.Errno) {
		t.Helper()
		if e == api.OK {
			decoded++
			if again != s {
				t.Fatalf("%q is decoded, and written as %q", s, again)
			}
		}
	}
	l := encodings()
	for range 20000 {
		b := []byte(l[r.Intn(len(l))].s)
		for range r.Intn(3) {
			switch at := r.Intn(len(b) + 1); {
			case r.Intn(3) == 0:
				b = b[:at]
			case at < len(b) && r.Intn(2) == 0:
				b[at] = byte(r.Intn(256))
			default:
				b = slices.Insert(b, at, byte(r.Intn(256)))
			}
		}
		s := string(b)
		c, e := pack.GetClass(s)
		check(s, pack.PutClass(c), e)
		f, e := pack.GetFilter(s)
		check(s, pack.PutFilter(f), e)
		x, e := pack.GetEdit(s)
		check(s, pack.PutEdit(x), e)
		d, e := pack.Get(s)
		check(s, pack.Put(d), e)
	}
	if decoded < 1000 {
		t.Error("decoded only", decoded)
	}
}

func TestAnything(t *testing.T) { // P6
	for _, a := range wild {
		for _, b := range wild {
			e := api.Edit{Op: a % 12, Class: api.Class{ID: b, Share: otherNaN}, Filter: api.Filter{ID: b}, ID: a, To: b}
			pack.GetEdit(pack.PutEdit(e))
			c := api.Config{Tpb: a, Rule: b, Default: a, Classes: []api.Class{e.Class, {ID: a}}, Filters: []api.Filter{e.Filter, {ID: a}}}
			pack.Get(pack.Put(c))
			pack.Sum(c)
			pack.Get(numbers(a, b, a, b))
		}
	}
}
