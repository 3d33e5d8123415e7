package filter_test

import (
	"math"
	"math/big"
	"math/rand"
	"slices"
	"testing"

	"flashlock/api"
	"flashlock/filter"
)

var (
	src4 = api.Addr{Lo: 0xc0a8014d}
	dst4 = api.Addr{Lo: 0x0a010203}
	src6 = api.Addr{Hi: 0x20010db801020304, Lo: 0x05060708090a0b0c}
	dst6 = api.Addr{Hi: 0xfe80a1a2a3a4a5a6, Lo: 0xb1b2b3b4b5b6b7b8}
	last = api.Addr{Hi: math.MaxUint64, Lo: math.MaxUint64}
	all  = api.Span{High: 65535}
)

// open returns a filter that matches every flow.
func open() api.Filter {
	return api.Filter{ID: 1, Proto: -1, SrcPorts: all, DstPorts: all, Leaf: 1}
}

func filter4() api.Filter {
	return api.Filter{ID: 7, Prio: 3, Version: 4, Src: src4, SrcLen: 24, Dst: dst4, DstLen: 16, Proto: 17,
		SrcPorts: api.Span{Low: 100, High: 200}, DstPorts: api.Span{Low: 53, High: 60}, Leaf: 9}
}

func filter6() api.Filter {
	return api.Filter{ID: 8, Prio: 4, Version: 6, Src: src6, SrcLen: 96, Dst: dst6, DstLen: 40, Proto: 6,
		SrcPorts: api.Span{Low: 100, High: 200}, DstPorts: api.Span{Low: 53, High: 60}, Leaf: 10}
}

func key4() api.Key {
	return api.Key{Version: 4, Src: src4, Dst: dst4, Proto: 17, SrcPort: 150, DstPort: 55}
}

func key6() api.Key {
	return api.Key{Version: 6, Src: src6, Dst: dst6, Proto: 6, SrcPort: 150, DstPort: 55}
}

func bits(version int) int { return map[int]int{4: 32, 6: 128}[version] }

// changed returns f as change leaves it.
func changed(f api.Filter, change func(*api.Filter)) api.Filter {
	change(&f)
	return f
}

func other(k api.Key, change func(*api.Key)) api.Key {
	change(&k)
	return k
}

// number returns an address as one number.
func number(a api.Addr) *big.Int {
	n := new(big.Int).SetUint64(a.Hi)
	return n.Lsh(n, 64).Add(n, new(big.Int).SetUint64(a.Lo))
}

// flipped returns a with the bit at that place of the version turned, the first one being 0.
func flipped(version int, a api.Addr, place int) api.Addr {
	shift := bits(version) - 1 - place
	if shift >= 64 {
		a.Hi ^= 1 << (shift - 64)
	} else {
		a.Lo ^= 1 << shift
	}
	return a
}

// under reports whether a and net have the same first n bits, by division.
func under(version int, a, net api.Addr, n int) bool {
	rest := uint(bits(version) - n)
	x, y := new(big.Int).Rsh(number(a), rest), new(big.Int).Rsh(number(net), rest)
	return x.Cmp(y) == 0
}

func valid(version int, a api.Addr) bool {
	return version == 6 || version == 4 && number(a).BitLen() <= 32
}

func TestRightAccepts(t *testing.T) { // P15.1
	for _, f := range []api.Filter{
		open(), filter4(), filter6(),
		changed(open(), func(f *api.Filter) { f.ID = 65535 }),
		changed(open(), func(f *api.Filter) { f.Prio = 65535 }),
		changed(open(), func(f *api.Filter) { f.Proto = 0 }),
		changed(open(), func(f *api.Filter) { f.Proto = 255 }),
		changed(open(), func(f *api.Filter) { f.SrcPorts = api.Span{} }),
		changed(open(), func(f *api.Filter) { f.DstPorts = api.Span{} }),
		changed(open(), func(f *api.Filter) { f.SrcPorts.Low = 65535 }),
		changed(open(), func(f *api.Filter) { f.DstPorts.Low = 65535 }),
		changed(open(), func(f *api.Filter) { f.SrcPorts = api.Span{Low: 80, High: 80} }),
		changed(open(), func(f *api.Filter) { f.Leaf = 65535 }),
		changed(filter4(), func(f *api.Filter) { f.SrcLen = 0 }),
		changed(filter4(), func(f *api.Filter) { f.DstLen = 0 }),
		changed(filter4(), func(f *api.Filter) { f.SrcLen = 32 }),
		changed(filter4(), func(f *api.Filter) { f.DstLen = 32 }),
		changed(filter4(), func(f *api.Filter) { f.Src = api.Addr{} }),
		changed(filter4(), func(f *api.Filter) { f.Src.Lo = math.MaxUint32 }),
		changed(filter4(), func(f *api.Filter) { f.Dst.Lo = math.MaxUint32 }),
		changed(filter6(), func(f *api.Filter) { f.SrcLen = 0 }),
		changed(filter6(), func(f *api.Filter) { f.DstLen = 0 }),
		changed(filter6(), func(f *api.Filter) { f.SrcLen = 128 }),
		changed(filter6(), func(f *api.Filter) { f.DstLen = 128 }),
		changed(filter6(), func(f *api.Filter) { f.Src = last }),
		changed(filter6(), func(f *api.Filter) { f.Dst = last }),
	} {
		if e := filter.Right(f); e != api.OK {
			t.Errorf("Right(%+v) = %d", f, e)
		}
	}
}

// fault is something wrong with a filter, and its error.
type fault struct {
	err  api.Errno
	name string
	make func(*api.Filter)
}

// faults returns groups of faults in the order in which their errors are told.
func faults() [][]fault {
	return [][]fault{
		{
			{api.ErrRange, "ID 0", func(f *api.Filter) { f.ID = 0 }},
			{api.ErrRange, "ID -1", func(f *api.Filter) { f.ID = -1 }},
			{api.ErrRange, "ID 65536", func(f *api.Filter) { f.ID = 65536 }},
			{api.ErrRange, "least ID", func(f *api.Filter) { f.ID = math.MinInt }},
			{api.ErrRange, "greatest ID", func(f *api.Filter) { f.ID = math.MaxInt }},
		}, {
			{api.ErrPrio, "Prio -1", func(f *api.Filter) { f.Prio = -1 }},
			{api.ErrPrio, "Prio 65536", func(f *api.Filter) { f.Prio = 65536 }},
			{api.ErrPrio, "least Prio", func(f *api.Filter) { f.Prio = math.MinInt }},
			{api.ErrPrio, "greatest Prio", func(f *api.Filter) { f.Prio = math.MaxInt }},
		}, {
			{api.ErrVersion, "Version -1", func(f *api.Filter) { f.Version = -1 }},
			{api.ErrVersion, "Version 1", func(f *api.Filter) { f.Version = 1 }},
			{api.ErrVersion, "Version 3", func(f *api.Filter) { f.Version = 3 }},
			{api.ErrVersion, "Version 5", func(f *api.Filter) { f.Version = 5 }},
			{api.ErrVersion, "Version 7", func(f *api.Filter) { f.Version = 7 }},
			{api.ErrVersion, "greatest Version", func(f *api.Filter) { f.Version = math.MaxInt }},
		}, {
			{api.ErrForm, "SrcLen -1", func(f *api.Filter) { f.SrcLen = -1 }},
			{api.ErrForm, "DstLen -1", func(f *api.Filter) { f.DstLen = -1 }},
			{api.ErrForm, "SrcLen one too long", func(f *api.Filter) { f.SrcLen = bits(f.Version) + 1 }},
			{api.ErrForm, "DstLen one too long", func(f *api.Filter) { f.DstLen = bits(f.Version) + 1 }},
			{api.ErrForm, "greatest SrcLen", func(f *api.Filter) { f.SrcLen = math.MaxInt }},
			{api.ErrForm, "least DstLen", func(f *api.Filter) { f.DstLen = math.MinInt }},
		}, {
			{api.ErrKind, "Proto -2", func(f *api.Filter) { f.Proto = -2 }},
			{api.ErrKind, "Proto 256", func(f *api.Filter) { f.Proto = 256 }},
			{api.ErrKind, "least Proto", func(f *api.Filter) { f.Proto = math.MinInt }},
			{api.ErrKind, "greatest Proto", func(f *api.Filter) { f.Proto = math.MaxInt }},
		}, {
			{api.ErrForm, "source from -1", func(f *api.Filter) { f.SrcPorts.Low = -1 }},
			{api.ErrForm, "destination from -1", func(f *api.Filter) { f.DstPorts.Low = -1 }},
			{api.ErrForm, "source to 65536", func(f *api.Filter) { f.SrcPorts.High = 65536 }},
			{api.ErrForm, "destination to 65536", func(f *api.Filter) { f.DstPorts.High = 65536 }},
			{api.ErrForm, "source of none", func(f *api.Filter) { f.SrcPorts = api.Span{Low: 81, High: 80} }},
			{api.ErrForm, "destination of none", func(f *api.Filter) { f.DstPorts = api.Span{Low: 1} }},
			{api.ErrForm, "source below", func(f *api.Filter) { f.SrcPorts = api.Span{Low: -2, High: -1} }},
			{api.ErrForm, "destination above", func(f *api.Filter) { f.DstPorts = api.Span{Low: 65536, High: 65537} }},
		}, {
			{api.ErrLeaf, "Leaf 0", func(f *api.Filter) { f.Leaf = 0 }},
			{api.ErrLeaf, "Leaf -1", func(f *api.Filter) { f.Leaf = -1 }},
			{api.ErrLeaf, "Leaf 65536", func(f *api.Filter) { f.Leaf = 65536 }},
			{api.ErrLeaf, "greatest Leaf", func(f *api.Filter) { f.Leaf = math.MaxInt }},
		},
	}
}

func TestRightRejects(t *testing.T) { // P15.1
	for _, f := range []api.Filter{open(), filter4(), filter6()} {
		for _, group := range faults() {
			for _, x := range group {
				if e := filter.Right(changed(f, x.make)); e != x.err {
					t.Errorf("version %d, %s: %d, not %d", f.Version, x.name, e, x.err)
				}
			}
		}
	}
}

func TestRightRejectsAddresses(t *testing.T) { // P15.1
	for _, c := range []struct {
		f api.Filter
		a api.Addr
	}{
		{open(), api.Addr{Lo: 1}},
		{open(), api.Addr{Hi: 1}},
		{open(), src4},
		{filter4(), api.Addr{Lo: math.MaxUint32 + 1}},
		{filter4(), api.Addr{Hi: 1}},
		{filter4(), src6},
	} {
		src := changed(c.f, func(f *api.Filter) { f.Src = c.a })
		dst := changed(c.f, func(f *api.Filter) { f.Dst = c.a })
		if filter.Right(src) != api.ErrForm || filter.Right(dst) != api.ErrForm {
			t.Errorf("version %d, address %x", c.f.Version, c.a)
		}
		// The address is told ahead of the protocol, though the ports' error is the same one.
		src.Proto, dst.Proto = 256, -2
		if filter.Right(src) != api.ErrForm || filter.Right(dst) != api.ErrForm {
			t.Errorf("version %d, address %x, and its protocol", c.f.Version, c.a)
		}
	}
}

func TestRightPrefixesOfAnyVersion(t *testing.T) { // P15.1
	for _, n := range []int{1, 32, 128, -1} {
		src := changed(open(), func(f *api.Filter) { f.SrcLen = n })
		dst := changed(open(), func(f *api.Filter) { f.DstLen = n })
		if filter.Right(src) != api.ErrForm || filter.Right(dst) != api.ErrForm {
			t.Errorf("length %d", n)
		}
	}
	if filter.Right(changed(filter6(), func(f *api.Filter) { f.Version = 4 })) != api.ErrForm {
		t.Error("prefixes of another version")
	}
}

func TestRightTellsTheFirst(t *testing.T) { // P15.1
	random := rand.New(rand.NewSource(15))
	groups := faults()
	for n := 0; n < 20*(1<<len(groups)); n++ {
		f := []api.Filter{open(), filter4(), filter6()}[n%3]
		want := api.OK
		for i, group := range groups {
			if n>>i&1 == 0 {
				continue
			}
			x := group[random.Intn(len(group))]
			x.make(&f)
			if want == api.OK {
				want = x.err
			}
		}
		if e := filter.Right(f); e != want {
			t.Fatalf("Right(%+v) = %d, not %d", f, e, want)
		}
	}
	if e := filter.Right(api.Filter{}); e != api.ErrRange {
		t.Errorf("the zero filter: %d", e)
	}
}

func TestMatchUDP(t *testing.T) { // P15.2, example 1
	f := changed(open(), func(f *api.Filter) { f.Proto = 17 })
	for _, k := range []api.Key{
		{Version: 4, Proto: 17},
		{Version: 6, Proto: 17},
		key4(),
		{Version: 6, Src: src6, Dst: last, Proto: 17, SrcPort: 65535, DstPort: 65535},
	} {
		if !filter.Match(f, k) {
			t.Errorf("no match of %+v", k)
		}
		for _, proto := range []int{-1, 0, 6, 16, 18, 255} {
			k.Proto = proto
			if filter.Match(f, k) {
				t.Errorf("match of %+v", k)
			}
		}
	}
}

func TestMatchVersions(t *testing.T) { // P15.2
	wide := func(version int) api.Filter {
		return changed(open(), func(f *api.Filter) { f.Version = version })
	}
	for version := -1; version <= 8; version++ {
		k := api.Key{Version: version, Proto: 6, SrcPort: 1, DstPort: 2}
		if filter.Match(open(), k) != (version == 4 || version == 6) {
			t.Errorf("any version, key of %d", version)
		}
		if filter.Match(wide(4), k) != (version == 4) || filter.Match(wide(6), k) != (version == 6) {
			t.Errorf("key of %d", version)
		}
	}
	if filter.Match(open(), api.Key{}) {
		t.Error("the key of a malformed packet")
	}
}

func TestMatchAddresses(t *testing.T) { // P15.2
	for _, c := range []struct {
		f api.Filter
		k api.Key
	}{{filter4(), key4()}, {filter6(), key6()}} {
		v := c.f.Version
		for n := 0; n <= bits(v); n++ {
			f := changed(c.f, func(f *api.Filter) { f.SrcLen, f.DstLen = n, bits(v)-n })
			if !filter.Match(f, c.k) {
				t.Errorf("version %d, lengths %d and %d", v, n, bits(v)-n)
			}
			for place := 0; place < bits(v); place++ {
				src := other(c.k, func(k *api.Key) { k.Src = flipped(v, k.Src, place) })
				dst := other(c.k, func(k *api.Key) { k.Dst = flipped(v, k.Dst, place) })
				if filter.Match(f, src) != (place >= n) || filter.Match(f, dst) != (place >= bits(v)-n) {
					t.Fatalf("version %d, lengths %d and %d, bit %d", v, n, bits(v)-n, place)
				}
			}
		}
	}
}

func TestMatchAddressesOfAnyVersion(t *testing.T) { // P15.2
	// Without a version there are no prefixes, so that not even a valid address is asked for.
	for _, a := range []api.Addr{{}, src4, src6, last} {
		if !filter.Match(open(), api.Key{Version: 4, Src: a, Dst: a}) {
			t.Errorf("any version, address %x", a)
		}
		none := changed(open(), func(f *api.Filter) { f.Version = 4 })
		right := valid(4, a)
		if filter.Match(none, api.Key{Version: 4, Src: a}) != right || filter.Match(none, api.Key{Version: 4, Dst: a}) != right {
			t.Errorf("version 4, prefixes of no bits, address %x", a)
		}
	}
}

func TestMatchPorts(t *testing.T) { // P15.2
	for _, s := range []api.Span{{}, {Low: 80, High: 80}, {Low: 80, High: 443}, {Low: 65535, High: 65535}, all} {
		src := changed(open(), func(f *api.Filter) { f.SrcPorts = s })
		dst := changed(open(), func(f *api.Filter) { f.DstPorts = s })
		for _, n := range []int{s.Low - 1, s.Low, s.Low + 1, s.High - 1, s.High, s.High + 1} {
			in := s.Low <= n && n <= s.High
			if filter.Match(src, api.Key{Version: 4, SrcPort: n, DstPort: 9}) != in {
				t.Errorf("source port %d, range %v", n, s)
			}
			if filter.Match(dst, api.Key{Version: 6, SrcPort: 9, DstPort: n}) != in {
				t.Errorf("destination port %d, range %v", n, s)
			}
		}
	}
}

func TestMatchNeedsRight(t *testing.T) { // P15.2
	f := changed(open(), func(f *api.Filter) { f.Proto = 17 })
	for _, c := range []struct {
		f api.Filter
		k api.Key
	}{{f, key4()}, {filter4(), key4()}, {filter6(), key6()}} {
		if !filter.Match(c.f, c.k) || !filter.Covers(c.f, c.f) {
			t.Errorf("version %d does not match", c.f.Version)
		}
		for _, group := range faults() {
			for _, x := range group {
				bad := changed(c.f, x.make)
				if filter.Match(bad, c.k) {
					t.Errorf("version %d, %s: match", c.f.Version, x.name)
				}
				if filter.Covers(bad, c.f) || filter.Covers(open(), bad) || filter.Covers(bad, bad) {
					t.Errorf("version %d, %s: covers", c.f.Version, x.name)
				}
			}
		}
	}
}

func TestLess(t *testing.T) { // P15.2
	order := []api.Filter{
		{Prio: math.MinInt, ID: math.MaxInt},
		{Prio: -1, ID: 5},
		{Prio: 0, ID: math.MinInt},
		{Prio: 0, ID: 1},
		{Prio: 0, ID: 2},
		{Prio: 1, ID: 1},
		{Prio: 1, ID: 65535},
		{Prio: 2, ID: 0},
		{Prio: math.MaxInt, ID: math.MinInt},
		{Prio: math.MaxInt, ID: math.MaxInt},
	}
	for i, a := range order {
		for j, b := range order {
			// Nothing else counts, nor whether they are valid.
			x, y := filter4(), filter6()
			x.Prio, x.ID, y.Prio, y.ID = a.Prio, a.ID, b.Prio, b.ID
			if filter.Less(a, b) != (i < j) || filter.Less(x, y) != (i < j) || filter.Less(y, x) != (j < i) {
				t.Errorf("Less of places %d and %d", i, j)
			}
		}
	}
}

func TestCoversVersions(t *testing.T) { // P15.2
	wide := func(version int) api.Filter {
		return changed(open(), func(f *api.Filter) { f.Version = version })
	}
	for _, v := range []int{0, 4, 6} {
		for _, w := range []int{0, 4, 6} {
			if filter.Covers(wide(v), wide(w)) != (v == 0 || v == w) {
				t.Errorf("versions %d and %d", v, w)
			}
		}
	}
	if !filter.Covers(open(), filter4()) || !filter.Covers(open(), filter6()) || filter.Covers(filter4(), open()) {
		t.Error("the filter for every flow")
	}
}

func TestCoversPrefixes(t *testing.T) { // P15.2
	for _, f := range []api.Filter{filter4(), filter6()} {
		v := f.Version
		for n := 0; n <= bits(v); n++ {
			f.SrcLen, f.DstLen = n, n
			for m := 0; m <= bits(v); m++ {
				src := changed(f, func(g *api.Filter) { g.SrcLen = m })
				dst := changed(f, func(g *api.Filter) { g.DstLen = m })
				if filter.Covers(f, src) != (n <= m) || filter.Covers(f, dst) != (n <= m) {
					t.Fatalf("version %d, lengths %d and %d", v, n, m)
				}
			}
			for place := 0; place < bits(v); place++ {
				src := changed(f, func(g *api.Filter) { g.Src, g.SrcLen = flipped(v, g.Src, place), bits(v) })
				dst := changed(f, func(g *api.Filter) { g.Dst, g.DstLen = flipped(v, g.Dst, place), bits(v) })
				if filter.Covers(f, src) != (place >= n) || filter.Covers(f, dst) != (place >= n) {
					t.Fatalf("version %d, length %d, bit %d", v, n, place)
				}
			}
		}
	}
}

func TestCoversProtocols(t *testing.T) { // P15.2
	for _, p := range []int{-1, 0, 6, 17, 255} {
		for _, q := range []int{-1, 0, 6, 17, 255} {
			f := changed(open(), func(f *api.Filter) { f.Proto = p })
			g := changed(open(), func(f *api.Filter) { f.Proto = q })
			if filter.Covers(f, g) != (p == -1 || p == q) {
				t.Errorf("protocols %d and %d", p, q)
			}
		}
	}
}

func TestCoversPorts(t *testing.T) { // P15.2
	var spans []api.Span
	for _, low := range []int{0, 1, 80, 81, 65534, 65535} {
		for _, high := range []int{0, 1, 80, 81, 65534, 65535} {
			if low <= high {
				spans = append(spans, api.Span{Low: low, High: high})
			}
		}
	}
	for _, s := range spans {
		for _, u := range spans {
			want := s.Low <= u.Low && u.High <= s.High
			src := func(s api.Span) api.Filter { return changed(open(), func(f *api.Filter) { f.SrcPorts = s }) }
			dst := func(s api.Span) api.Filter { return changed(open(), func(f *api.Filter) { f.DstPorts = s }) }
			if filter.Covers(src(s), src(u)) != want || filter.Covers(dst(s), dst(u)) != want {
				t.Errorf("ranges %v and %v", s, u)
			}
		}
	}
}

func TestCoversLooksAtNothingElse(t *testing.T) { // P15.2
	f := filter4()
	g := changed(f, func(g *api.Filter) { g.ID, g.Prio, g.Leaf = 65535, 65535, 65535 })
	if !filter.Covers(f, g) || !filter.Covers(g, f) {
		t.Error("other ID, Prio and Leaf")
	}
	// What follows a prefix in an address does not count.
	h := changed(f, func(h *api.Filter) { h.Src.Lo ^= 0xff; h.Dst.Lo ^= 0xffff })
	if !filter.Covers(f, h) || !filter.Covers(h, f) || !filter.Match(h, key4()) {
		t.Error("other bits behind the prefixes")
	}
}

func TestOf(t *testing.T) { // P15.2
	port := func(n int) api.Span { return api.Span{Low: n, High: n} }
	want4 := api.Filter{ID: 5, Prio: 6, Version: 4, Src: src4, Dst: dst4, SrcLen: 32, DstLen: 32, Proto: 17,
		SrcPorts: port(150), DstPorts: port(55), Leaf: 7}
	want6 := api.Filter{ID: 65535, Prio: 65535, Version: 6, Src: src6, Dst: dst6, SrcLen: 128, DstLen: 128, Proto: 6,
		SrcPorts: port(150), DstPorts: port(55), Leaf: 65535}
	if got := filter.Of(key4(), 5, 6, 7); got != want4 || filter.Right(got) != api.OK {
		t.Errorf("version 4: %+v", got)
	}
	if got := filter.Of(key6(), 65535, 65535, 65535); got != want6 || filter.Right(got) != api.OK {
		t.Errorf("version 6: %+v", got)
	}
}

func TestOfWhatIsInvalid(t *testing.T) { // P15.2
	if got := filter.Of(api.Key{}, 0, 0, 0); got != (api.Filter{}) {
		t.Errorf("the zero key: %+v", got)
	}
	k := api.Key{Version: 5, Src: last, Dst: src6, Proto: -7, SrcPort: -1, DstPort: 65536}
	want := api.Filter{ID: -1, Prio: -2, Version: 5, Src: last, Dst: src6, Proto: -7,
		SrcPorts: api.Span{Low: -1, High: -1}, DstPorts: api.Span{Low: 65536, High: 65536}, Leaf: -3}
	if got := filter.Of(k, -1, -2, -3); got != want || filter.Match(got, k) {
		t.Errorf("an invalid key: %+v", got)
	}
	for _, c := range []struct {
		id, prio, leaf int
		want           api.Errno
	}{{0, 0, 1, api.ErrRange}, {1, -1, 1, api.ErrPrio}, {1, 0, 0, api.ErrLeaf}, {65536, 0, 1, api.ErrRange}} {
		f := filter.Of(key4(), c.id, c.prio, c.leaf)
		if filter.Right(f) != c.want || filter.Match(f, key4()) {
			t.Errorf("Of with %d, %d, %d", c.id, c.prio, c.leaf)
		}
	}
}

// changes returns keys that differ from k in one field each.
func changes(k api.Key) []api.Key {
	list := []api.Key{
		other(k, func(k *api.Key) { k.Version = 10 - k.Version }),
		other(k, func(k *api.Key) { k.Version = 0 }),
		other(k, func(k *api.Key) { k.Proto = -1 }),
		other(k, func(k *api.Key) { k.Proto ^= 1 }),
		other(k, func(k *api.Key) { k.SrcPort ^= 1 }),
		other(k, func(k *api.Key) { k.DstPort ^= 1 }),
		other(k, func(k *api.Key) { k.SrcPort, k.DstPort = k.SrcPort+65536, k.DstPort+65536 }),
		other(k, func(k *api.Key) { k.Src.Hi ^= 1 << 63 }),
		other(k, func(k *api.Key) { k.Dst.Hi ^= 1 }),
		other(k, func(k *api.Key) { k.Src.Lo ^= 1 << 63 }),
	}
	for place := 0; place < bits(k.Version); place++ {
		list = append(list,
			other(k, func(k *api.Key) { k.Src = flipped(k.Version, k.Src, place) }),
			other(k, func(k *api.Key) { k.Dst = flipped(k.Version, k.Dst, place) }))
	}
	return list
}

func TestOfMatchesItsFlowOnly(t *testing.T) { // P15.3
	for _, k := range []api.Key{
		key4(), key6(),
		{Version: 4}, {Version: 6},
		{Version: 4, Src: api.Addr{Lo: math.MaxUint32}, Proto: 255, SrcPort: 65535, DstPort: 65535},
		{Version: 6, Src: last, Dst: last, Proto: 255, SrcPort: 65535},
	} {
		f := filter.Of(k, 1, 0, 1)
		if !filter.Match(f, k) {
			t.Errorf("no match of %+v", k)
		}
		for _, j := range changes(k) {
			if filter.Match(f, j) {
				t.Errorf("the filter of %+v matches %+v", k, j)
			}
		}
	}
}

// pick returns one of the values.
func pick[T any](r *rand.Rand, l ...T) T { return l[r.Intn(len(l))] }

// addr returns an address of that version out of a few near to one another; seldom one that is invalid.
func addr(r *rand.Rand, version int) api.Addr {
	if version == 0 {
		return pick(r, api.Addr{}, api.Addr{}, api.Addr{}, api.Addr{}, api.Addr{}, api.Addr{Lo: 1})
	}
	a := api.Addr{Lo: pick[uint64](r, 0, 1, 2, 3) << 30}
	if version == 6 {
		a.Hi = pick[uint64](r, 0, 1, 2, 3) << 62
	}
	a.Lo |= pick[uint64](r, 0, 0, 0, 1)
	if r.Intn(20) == 0 {
		a = pick(r, last, src6, api.Addr{Lo: 1 << 32})
	}
	return a
}

func span(r *rand.Rand) api.Span {
	return api.Span{Low: pick(r, 0, 0, 0, 1, 2, -1), High: pick(r, 65535, 65535, 3, 2, 1, 1)}
}

func anyFilter(r *rand.Rand) api.Filter {
	v := pick(r, 0, 4, 4, 6, 6)
	full := bits(v)
	return api.Filter{
		ID: pick(r, 1, 2, 65535), Prio: r.Intn(3), Version: v,
		Src: addr(r, v), SrcLen: pick(r, 0, min(1, full), min(2, full), full),
		Dst: addr(r, v), DstLen: pick(r, 0, 0, min(1, full), min(2, full), full-1),
		Proto: pick(r, -1, -1, 6, 17), SrcPorts: span(r), DstPorts: span(r), Leaf: 1 + r.Intn(3),
	}
}

func anyKey(r *rand.Rand) api.Key {
	v := pick(r, 4, 4, 4, 6, 6, 6, 0)
	return api.Key{Version: v, Src: addr(r, v), Dst: addr(r, v), Proto: pick(r, 6, 17, -1),
		SrcPort: r.Intn(5), DstPort: r.Intn(5)}
}

// sound says in other words which of these filters are valid: of what may be wrong, anyFilter makes this only.
func sound(f api.Filter) bool {
	full := bits(f.Version)
	if f.SrcLen > full || f.DstLen < 0 || f.SrcPorts.Low < 0 || f.DstPorts.Low < 0 ||
		f.SrcPorts.Low > f.SrcPorts.High || f.DstPorts.Low > f.DstPorts.High {
		return false
	}
	if f.Version == 0 {
		return number(f.Src).Sign() == 0 && number(f.Dst).Sign() == 0
	}
	return valid(f.Version, f.Src) && valid(f.Version, f.Dst)
}

// matches says in other words what Match promises.
func matches(f api.Filter, k api.Key) bool {
	switch {
	case !sound(f), k.Version != 4 && k.Version != 6, f.Proto != -1 && f.Proto != k.Proto,
		k.SrcPort < f.SrcPorts.Low, k.SrcPort > f.SrcPorts.High,
		k.DstPort < f.DstPorts.Low, k.DstPort > f.DstPorts.High:
		return false
	case f.Version == 0:
		return true
	}
	return f.Version == k.Version && valid(k.Version, k.Src) && valid(k.Version, k.Dst) &&
		under(k.Version, k.Src, f.Src, f.SrcLen) && under(k.Version, k.Dst, f.Dst, f.DstLen)
}

// covers says in other words what Covers promises.
func covers(f, g api.Filter) bool {
	switch {
	case !sound(f), !sound(g), f.Proto != -1 && f.Proto != g.Proto,
		f.SrcPorts.Low > g.SrcPorts.Low, f.SrcPorts.High < g.SrcPorts.High,
		f.DstPorts.Low > g.DstPorts.Low, f.DstPorts.High < g.DstPorts.High:
		return false
	case f.Version == 0:
		return true
	}
	return f.Version == g.Version && f.SrcLen <= g.SrcLen && f.DstLen <= g.DstLen &&
		under(f.Version, g.Src, f.Src, f.SrcLen) && under(f.Version, g.Dst, f.Dst, f.DstLen)
}

func TestRandom(t *testing.T) { // P15.1, P15.2
	r := rand.New(rand.NewSource(1))
	var wrong, matched, covered int
	for range 200000 {
		f, g, k := anyFilter(r), anyFilter(r), anyKey(r)
		if (filter.Right(f) == api.OK) != sound(f) {
			t.Fatalf("Right(%+v) = %d", f, filter.Right(f))
		}
		if got := filter.Match(f, k); got != matches(f, k) {
			t.Fatalf("Match(%+v, %+v) = %t", f, k, got)
		}
		if got := filter.Covers(f, g); got != covers(f, g) {
			t.Fatalf("Covers(%+v, %+v) = %t", f, g, got)
		}
		wrong += number01(!sound(f))
		matched += number01(matches(f, k))
		covered += number01(covers(f, g))
	}
	if min(wrong, matched, covered) < 1000 {
		t.Errorf("too few of a kind: %d wrong, %d matched, %d covered", wrong, matched, covered)
	}
}

func number01(b bool) int {
	if b {
		return 1
	}
	return 0
}

func TestCoversImpliesMatch(t *testing.T) { // P15.3
	r := rand.New(rand.NewSource(2))
	keys := make([]api.Key, 500)
	for i := range keys {
		keys[i] = anyKey(r)
	}
	told := 0
	for range 100000 {
		f, g := anyFilter(r), anyFilter(r)
		if !filter.Covers(f, g) {
			continue
		}
		for _, k := range keys {
			if filter.Match(g, k) {
				told++
				if !filter.Match(f, k) {
					t.Fatalf("%+v covers %+v and does not match %+v", f, g, k)
				}
			}
		}
	}
	if told < 5000 {
		t.Errorf("only %d matches", told)
	}
}

func TestOfIsCovered(t *testing.T) { // P15.2, P15.3
	r := rand.New(rand.NewSource(3))
	for range 100000 {
		f, k := anyFilter(r), anyKey(r)
		// A key that is valid is matched exactly if the filter for it alone is covered.
		if valid(k.Version, k.Src) && valid(k.Version, k.Dst) && k.Proto >= 0 &&
			filter.Covers(f, filter.Of(k, 9, 9, 9)) != filter.Match(f, k) {
			t.Fatalf("%+v and %+v", f, k)
		}
	}
}

func TestLessSorts(t *testing.T) { // P15.2
	r := rand.New(rand.NewSource(4))
	list := make([]api.Filter, 300)
	for i := range list {
		list[i] = api.Filter{ID: i, Prio: r.Intn(4)}
	}
	r.Shuffle(len(list), func(i, j int) { list[i], list[j] = list[j], list[i] })
	slices.SortFunc(list, func(a, b api.Filter) int { return number01(filter.Less(b, a)) - number01(filter.Less(a, b)) })
	for i, f := range list[1:] {
		if p := list[i]; p.Prio > f.Prio || p.Prio == f.Prio && p.ID >= f.ID {
			t.Errorf("%d of %d stands ahead of %d of %d", p.ID, p.Prio, f.ID, f.Prio)
		}
	}
}

func TestAnyArguments(t *testing.T) { // P6
	r := rand.New(rand.NewSource(5))
	n := func() int {
		return pick(r, math.MinInt, -1, 0, 1, 4, 6, 32, 33, 128, 129, 255, 65535, 65536, math.MaxInt)
	}
	a := func() api.Addr {
		return api.Addr{Hi: pick[uint64](r, 0, 1, math.MaxUint64), Lo: pick[uint64](r, 0, math.MaxUint32, math.MaxUint64)}
	}
	f := func() api.Filter {
		return api.Filter{ID: n(), Prio: n(), Version: n(), Src: a(), Dst: a(), SrcLen: n(), DstLen: n(), Proto: n(),
			SrcPorts: api.Span{Low: n(), High: n()}, DstPorts: api.Span{Low: n(), High: n()}, Leaf: n()}
	}
	for range 50000 {
		x, y := f(), f()
		k := api.Key{Version: n(), Src: a(), Dst: a(), Proto: n(), SrcPort: n(), DstPort: n()}
		wrong := filter.Right(x) != api.OK
		if wrong && (filter.Match(x, k) || filter.Covers(x, y) || filter.Covers(y, x)) {
			t.Fatalf("an invalid filter takes part: %+v", x)
		}
		if filter.Less(x, y) && filter.Less(y, x) {
			t.Fatalf("each is less: %+v, %+v", x, y)
		}
		if o := filter.Of(k, x.ID, x.Prio, x.Leaf); o.ID != x.ID || o.Prio != x.Prio || o.Leaf != x.Leaf || o.Proto != k.Proto {
			t.Fatalf("Of(%+v) = %+v", k, o)
		}
	}
}
