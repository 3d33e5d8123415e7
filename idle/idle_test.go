package idle_test

import (
	"math"
	"math/big"
	"math/rand"
	"slices"
	"testing"

	"flashlock/api"
	"flashlock/class"
	"flashlock/idle"
	"flashlock/sat"
)

// numbers are the bounds that the chapters name, and what lies beside them.
var numbers = []int{
	math.MinInt, math.MinInt + 1, -api.Most - 1, -api.Most, -api.Most + 1, -1<<40 - 1, -1 << 40, -1000, -101, -100, -99, -2, -1,
	0, 1, 2, 99, 100, 101, 1000, 1 << 40, 1<<40 + 1, api.Most - 1, api.Most, api.Most + 1, math.MaxInt - 1, math.MaxInt,
}

// of returns a valid class with that weight and those bounds.
func of(weight, least, most int) api.Class {
	return api.Class{ID: 1, Share: 1, Quantum: 1, Limit: 1, Weight: weight, MinIdle: least, MaxIdle: most}
}

// invalid returns classes each of which has one part that is wrong.
func invalid() []api.Class {
	l := []api.Class{{}}
	for _, spoil := range []func(c *api.Class){
		func(c *api.Class) { c.ID = 0 },
		func(c *api.Class) { c.ID = api.MaxID + 1 },
		func(c *api.Class) { c.Parent = -1 },
		func(c *api.Class) { c.Parent = c.ID },
		func(c *api.Class) { c.Share = math.NaN() },
		func(c *api.Class) { c.Share = 0 },
		func(c *api.Class) { c.Share = 2 },
		func(c *api.Class) { c.Prio = api.MaxPrio },
		func(c *api.Class) { c.Quantum = 0 },
		func(c *api.Class) { c.Limit = api.MaxLimit + 1 },
		func(c *api.Class) { c.Weight = -1 },
		func(c *api.Class) { c.Weight = api.MaxWeight + 1 },
		func(c *api.Class) { c.MinIdle = 1 },
		func(c *api.Class) { c.MinIdle = -1<<40 - 1 },
		func(c *api.Class) { c.MaxIdle = -1 },
		func(c *api.Class) { c.MaxIdle = 1<<40 + 1 },
	} {
		c := of(1, -100, 100)
		spoil(&c)
		l = append(l, c)
	}
	return l
}

// draw returns a number of any length.
func draw(r *rand.Rand) int { return int(r.Uint64()) >> r.Intn(64) }

// anyClass returns a valid class.
func anyClass(r *rand.Rand) api.Class {
	bound := func() int { return r.Intn(2) * r.Intn(1<<r.Intn(41)+1) }
	return of(r.Intn(api.MaxWeight+1), -bound(), bound())
}

func whole(x int) *big.Int { return big.NewInt(int64(x)) }

// held returns x clamped to what arithmetic saturates at.
func held(x *big.Int) *big.Int { return bounded(x, -api.Most, api.Most) }

func bounded(x *big.Int, low, high int) *big.Int {
	if x.Cmp(whole(low)) < 0 {
		return whole(low)
	}
	if x.Cmp(whole(high)) > 0 {
		return whole(high)
	}
	return x
}

func plus(a, b *big.Int) *big.Int { return held(new(big.Int).Add(held(a), held(b))) }

func minus(a, b *big.Int) *big.Int { return held(new(big.Int).Sub(held(a), held(b))) }

// reference is Sent for a valid class, by long numbers.
func reference(s idle.State, c api.Class, time, now int) idle.State {
	idleness := minus(minus(whole(now), whole(s.Last)), whole(time))
	power := new(big.Int).Lsh(whole(1), uint(c.Weight))
	// Division by a positive number rounds down here.
	moved := new(big.Int).Div(minus(idleness, whole(s.Avg)), power)
	avg := bounded(plus(whole(s.Avg), moved), c.MinIdle, c.MaxIdle)
	next := idle.State{Last: int(held(whole(now)).Int64()), Avg: int(avg.Int64())}
	if avg.Sign() < 0 {
		// The average reaches 0 by a sample that is above it by -avg times that power.
		away := new(big.Int).Mul(new(big.Int).Neg(avg), new(big.Int).Sub(power, whole(1)))
		next.Until = int(plus(whole(now), plus(whole(time), away)).Int64())
	}
	return next
}

func sent(t *testing.T, s idle.State, c api.Class, time, now int, want idle.State) {
	t.Helper()
	if got := idle.Sent(s, c, time, now); got != want {
		t.Errorf("Sent(%v, %+v, %d, %d) = %v, want %v", s, c, time, now, got, want)
	}
}

func TestNew(t *testing.T) { // P25.1
	for _, c := range []api.Class{of(1, -100, 0), of(0, 0, 0), of(16, -1<<40, 1<<40), of(4, 0, 200)} {
		for _, now := range numbers {
			want := idle.State{Last: max(-api.Most, min(now, api.Most)), Avg: c.MaxIdle}
			if got := idle.New(c, now); got != want {
				t.Errorf("New(%+v, %d) = %v, want %v", c, now, got, want)
			}
		}
	}
	for _, c := range invalid() {
		for _, now := range numbers {
			if got := idle.New(c, now); got != (idle.State{}) {
				t.Errorf("New(%+v, %d) = %v", c, now, got)
			}
		}
	}
}

func TestSent(t *testing.T) { // P25.1
	c := of(1, -100, 0)
	// The example.
	sent(t, idle.New(c, 0), c, 10, 0, idle.State{Avg: -5, Until: 15})
	// The same a second time: the idleness is -10 again, and half of the way to it is taken.
	sent(t, idle.State{Avg: -5, Until: 15}, c, 10, 0, idle.State{Avg: -8, Until: 18})
	// The idleness is that since Last, less the transmission's time.
	sent(t, idle.State{Last: 100}, of(0, -100, 100), 10, 150, idle.State{Last: 150, Avg: 40})
	sent(t, idle.State{Last: 100}, of(0, -100, 100), 60, 150, idle.State{Last: 150, Avg: -10, Until: 210})
	// Averages are rounded down.
	sent(t, idle.State{}, of(2, -100, 100), 0, 7, idle.State{Last: 7, Avg: 1})
	sent(t, idle.State{}, of(2, -100, 100), 8, 7, idle.State{Last: 7, Avg: -1, Until: 7 + 8 + 3})
	// An average of exactly 0 is not over the limit, whatever Until was.
	sent(t, idle.State{Avg: -5, Until: 15}, c, 10, 15, idle.State{Last: 15})
	sent(t, idle.State{Avg: -5, Until: 15}, c, 10, 14, idle.State{Last: 14, Avg: -1, Until: 25})
	// A time that is 0 or goes back.
	sent(t, idle.State{}, of(0, -100, 100), 0, 0, idle.State{})
	sent(t, idle.State{Last: 9}, of(0, -100, 100), 0, 2, idle.State{Last: 2, Avg: -7, Until: 2})
	sent(t, idle.State{Last: 9}, of(0, -100, 100), -20, 2, idle.State{Last: 2, Avg: 13})
	// At negative times Until is one too.
	sent(t, idle.State{Last: -200}, of(0, -100, 100), 60, -150, idle.State{Last: -150, Avg: -10, Until: -90})
}

func TestSentClamps(t *testing.T) { // P25.1
	// At the bounds, one within them and one beyond; Until is that of the clamped average.
	for _, x := range []struct{ idleness, avg int }{{-99, -99}, {-100, -100}, {-101, -100}, {-1 << 50, -100}, {49, 49}, {50, 50}, {51, 50}, {1 << 50, 50}} {
		want := idle.State{Last: 7, Avg: x.avg}
		if x.avg < 0 {
			want.Until = 7 - x.idleness
		}
		sent(t, idle.State{Last: 7}, of(0, -100, 50), -x.idleness, 7, want)
	}
	sent(t, idle.State{}, of(1, -100, 50), 1000, 0, idle.State{Avg: -100, Until: 1000 + 100})
	sent(t, idle.State{}, of(3, -100, 50), 1000, 0, idle.State{Avg: -100, Until: 1000 + 700})
	// With the bound 0 a class never comes over its limit.
	sent(t, idle.State{}, of(1, 0, 50), 1000, 0, idle.State{})
	// An average outside of the bounds moves on from where it was, and is clamped then.
	sent(t, idle.State{Avg: 1000}, of(1, -100, 100), 980, 0, idle.State{Avg: 10})
	sent(t, idle.State{Avg: -1000}, of(1, -100, 100), 0, 980, idle.State{Last: 980, Avg: -10, Until: 990})
}

func TestSentSaturates(t *testing.T) { // P25.1 P6
	c := of(0, -100, 100)
	sent(t, idle.State{}, c, 0, math.MaxInt, idle.State{Last: api.Most, Avg: 100})
	sent(t, idle.State{}, c, 0, math.MinInt, idle.State{Last: -api.Most, Avg: -100, Until: -api.Most})
	sent(t, idle.State{}, c, math.MaxInt, 0, idle.State{Avg: -100, Until: api.Most})
	sent(t, idle.State{}, c, math.MaxInt, math.MaxInt, idle.State{Last: api.Most})
	sent(t, idle.State{}, c, math.MinInt, 0, idle.State{Avg: 100})
	sent(t, idle.State{Last: math.MinInt}, c, 5, math.MaxInt, idle.State{Last: api.Most, Avg: 100})
	// The difference of the times saturates ahead of the transmission's time.
	sent(t, idle.State{Last: -api.Most}, c, api.Most, api.Most, idle.State{Last: api.Most})
	sent(t, idle.State{Last: api.Most}, c, -api.Most, -api.Most, idle.State{Last: -api.Most})
	sent(t, idle.State{Last: api.Most}, of(16, -1<<40, 0), api.Most, api.Most, idle.State{Last: api.Most, Avg: -1 << 40, Until: api.Most})
}

func TestSentByReference(t *testing.T) { // P25.1 P6
	r := rand.New(rand.NewSource(251))
	over := 0
	check := func(s idle.State, c api.Class, time, now int) {
		t.Helper()
		want := reference(s, c, time, now)
		if want.Avg < 0 {
			over++
		}
		if got := idle.Sent(s, c, time, now); got != want {
			t.Fatalf("Sent(%v, %+v, %d, %d) = %v, want %v", s, c, time, now, got, want)
		}
	}
	for _, last := range numbers {
		for _, avg := range numbers {
			for _, time := range numbers {
				now := numbers[r.Intn(len(numbers))]
				check(idle.State{Last: last, Avg: avg, Until: draw(r)}, anyClass(r), time, now)
			}
		}
	}
	for range 50000 {
		last := r.Intn(1 << 40)
		check(idle.State{Last: last, Avg: draw(r) >> 20, Until: draw(r)}, anyClass(r), r.Intn(1<<r.Intn(32)), last+r.Intn(1<<r.Intn(32)))
		check(idle.State{Last: draw(r), Avg: draw(r), Until: draw(r)}, anyClass(r), draw(r), draw(r))
	}
	if over < 10000 {
		t.Errorf("an average was negative %d times", over)
	}
}

func TestSentOfInvalidClasses(t *testing.T) { // P25.1
	for _, c := range invalid() {
		for _, s := range []idle.State{{}, {Last: 5, Avg: -7, Until: 9}, {Last: math.MaxInt, Avg: math.MinInt, Until: math.MaxInt}} {
			for _, now := range numbers {
				sent(t, s, c, 10, now, s)
			}
		}
	}
}

func TestOverAndLeft(t *testing.T) { // P25.2
	for _, until := range numbers {
		for _, now := range numbers {
			// Only Until counts.
			for _, s := range []idle.State{{Until: until}, {Last: 7, Avg: -5, Until: until}, {Last: math.MaxInt, Avg: 5, Until: until}} {
				if got := idle.Over(s, now); got != (until > now) {
					t.Errorf("Over(%v, %d) = %t", s, now, got)
				}
				want := 0
				if until > now {
					want = int(minus(whole(until), whole(now)).Int64())
				}
				if got := idle.Left(s, now); got != want {
					t.Errorf("Left(%v, %d) = %d, want %d", s, now, got, want)
				}
			}
		}
	}
	s := idle.State{Avg: -5, Until: 15}
	for now, want := range map[int]int{0: 15, 5: 10, 14: 1, 15: 0, 16: 0, 1000: 0} {
		if got := idle.Left(s, now); got != want || idle.Over(s, now) != (want > 0) {
			t.Errorf("Left(%v, %d) = %d, want %d", s, now, got, want)
		}
	}
}

func TestCarry(t *testing.T) { // P25.2
	c := of(3, -100, 50)
	for avg, want := range map[int]int{
		math.MinInt: -100, -101: -100, -100: -100, -99: -99, -1: -1, 0: 0, 1: 1, 49: 49, 50: 50, 51: 50, math.MaxInt: 50,
	} {
		// All else stays, even what arithmetic would have clamped.
		for _, s := range []idle.State{{Avg: avg}, {Last: 7, Avg: avg, Until: 9}, {Last: math.MaxInt, Avg: avg, Until: math.MinInt}} {
			if got := idle.Carry(s, c); got != (idle.State{Last: s.Last, Avg: want, Until: s.Until}) {
				t.Errorf("Carry(%v) = %v, want the average %d", s, got, want)
			}
			if got := idle.Carry(s, of(0, 0, 0)); got != (idle.State{Last: s.Last, Until: s.Until}) {
				t.Errorf("Carry(%v) to the bounds 0 = %v", s, got)
			}
			for _, bad := range invalid() {
				if got := idle.Carry(s, bad); got != s {
					t.Errorf("Carry(%v, %+v) = %v", s, bad, got)
				}
			}
		}
	}
}

// steps applies Sent one by one.
func steps(s idle.State, c api.Class, time int, nows []int) idle.State {
	for i := 0; i < len(nows); i++ {
		s = idle.Sent(s, c, time, nows[i])
	}
	return s
}

func TestPaced(t *testing.T) { // P25.2
	c := of(1, -100, 0)
	s := idle.State{Last: 3, Avg: -7, Until: 12}
	for _, nows := range [][]int{nil, {}} {
		if got := idle.Paced(s, c, 10, nows); got != s {
			t.Errorf("Paced without packets = %v", got)
		}
	}
	if got := idle.Paced(idle.State{}, c, 10, []int{0, 0, 15}); got != (idle.State{Last: 15, Avg: -2, Until: 27}) {
		t.Errorf("Paced = %v", got)
	}
	// The order counts.
	if a, b := idle.Paced(s, c, 10, []int{5, 40}), idle.Paced(s, c, 10, []int{40, 5}); a == b {
		t.Errorf("Paced in both orders = %v", a)
	}
	for _, bad := range invalid() {
		if got := idle.Paced(s, bad, 10, []int{1, 1, 2, 3}); got != s {
			t.Errorf("Paced(%+v) = %v", bad, got)
		}
	}
}

func TestPacedStepByStep(t *testing.T) { // P25.2
	r := rand.New(rand.NewSource(252))
	for range 5000 {
		c := anyClass(r)
		time := r.Intn(1 << r.Intn(20))
		s := idle.New(c, r.Intn(100))
		if r.Intn(4) == 0 {
			s, time = idle.State{Last: draw(r), Avg: draw(r), Until: draw(r)}, draw(r)
		}
		// Times that come again, next to each other and later, so that states come to rest.
		var nows []int
		for range r.Intn(8) {
			now := numbers[r.Intn(len(numbers))]
			if r.Intn(3) > 0 {
				now = r.Intn(3)
			}
			nows = append(nows, slices.Repeat([]int{now}, 1+r.Intn(2)*r.Intn(60))...)
		}
		if got, want := idle.Paced(s, c, time, nows), steps(s, c, time, nows); got != want {
			t.Fatalf("Paced(%v, %+v, %d, %v) = %v, want %v", s, c, time, nows, got, want)
		}
	}
}

func TestPacedKeeps(t *testing.T) { // P25.2
	all := []int{5, 5, 1, 9, 9, 7, 3}
	kept := slices.Clone(all)
	idle.Paced(idle.State{}, of(1, -100, 0), 10, all[:5])
	if !slices.Equal(all, kept) {
		t.Errorf("Paced changed its argument to %v", all)
	}
}

func TestWaitingUntil(t *testing.T) { // P25.3
	r := rand.New(rand.NewSource(253))
	over, earlier := 0, 0
	for range 50000 {
		c := anyClass(r)
		if class.Right(c) != api.OK {
			t.Fatalf("%+v is not valid", c)
		}
		now, time := r.Intn(1<<40), r.Intn(1<<r.Intn(32))
		s := idle.Sent(idle.State{Last: now - r.Intn(1<<r.Intn(32)), Avg: -r.Intn(1 << r.Intn(40))}, c, time, now)
		if !idle.Over(s, now) {
			continue
		}
		over++
		if idle.Over(s, s.Until) || idle.Left(s, s.Until) != 0 || sat.Add(now, idle.Left(s, now)) != s.Until {
			t.Fatalf("%v at its Until", s)
		}
		for _, at := range []int{s.Until, s.Until + 1, s.Until + r.Intn(1<<32)} {
			if next := idle.Sent(s, c, time, at); next.Until != 0 || next.Avg < 0 || idle.Over(next, at) {
				t.Fatalf("%v, %+v: sent again at %d: %v", s, c, at, next)
			}
		}
		for _, at := range []int{s.Until - 1, now, now + r.Intn(s.Until-now)} {
			next := idle.Sent(s, c, time, at)
			if next.Avg == c.MinIdle || next.Avg == c.MaxIdle {
				continue
			}
			earlier++
			if !idle.Over(next, at) || next.Avg >= 0 {
				t.Fatalf("%v, %+v: sent too early at %d: %v", s, c, at, next)
			}
		}
	}
	if over < 5000 || earlier < 5000 {
		t.Errorf("over the limit %d times, sent too early %d times", over, earlier)
	}
}
