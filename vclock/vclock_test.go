package vclock_test

import (
	"math"
	"math/rand"
	"testing"

	"flashlock/api"
	"flashlock/vclock"
)

func shows(t *testing.T, c *vclock.Clock, now, ticks int) {
	t.Helper()
	if c.Now() != now || c.Ticks() != ticks {
		t.Errorf("the clock shows %d after %d ticks, want %d after %d", c.Now(), c.Ticks(), now, ticks)
	}
}

func TestNew(t *testing.T) { // P5.1
	for _, at := range []int{math.MinInt, -1, api.Most + 1, math.MaxInt} {
		if vclock.New(at) != nil {
			t.Errorf("New(%d) is not nil", at)
		}
	}
	for _, at := range []int{0, 1, 5, api.Most - 1, api.Most} {
		c := vclock.New(at)
		if c == nil {
			t.Fatalf("New(%d) is nil", at)
		}
		shows(t, c, at, 0)
	}
}

func TestExample(t *testing.T) { // P5.1, P5.2
	c := vclock.New(5)
	if e := c.Tick(7); e != api.OK {
		t.Errorf("Tick(7) = %d", e)
	}
	if c.Now() != 12 || c.Left(20) != 8 || c.Left(3) != 0 {
		t.Errorf("%d, %d, %d", c.Now(), c.Left(20), c.Left(3))
	}
}

func TestTick(t *testing.T) { // P5.1
	c := vclock.New(0)
	for i, n := range []int{0, 1, 0, api.MaxTick} {
		if e := c.Tick(n); e != api.OK {
			t.Errorf("Tick(%d) = %d", n, e)
		}
		if c.Ticks() != i+1 {
			t.Errorf("Ticks = %d after %d", c.Ticks(), i+1)
		}
	}
	shows(t, c, api.MaxTick+1, 4)
	for _, n := range []int{math.MinInt, -1, api.MaxTick + 1, api.Most, math.MaxInt} {
		if e := c.Tick(n); e != api.ErrRange {
			t.Errorf("Tick(%d) = %d", n, e)
		}
	}
	shows(t, c, api.MaxTick+1, 4)
}

func TestTickStopsAtMost(t *testing.T) { // P5.1
	c := vclock.New(api.Most - 3)
	for i, want := range []int{api.Most - 1, api.Most, api.Most} {
		if e := c.Tick(2); e != api.OK {
			t.Errorf("Tick(2) = %d", e)
		}
		shows(t, c, want, i+1)
	}
	c = vclock.New(api.Most - 1)
	if e := c.Tick(api.MaxTick); e != api.OK {
		t.Errorf("Tick(MaxTick) = %d", e)
	}
	shows(t, c, api.Most, 1)
}

func TestLeft(t *testing.T) { // P5.2
	for _, c := range []struct{ now, until, want int }{
		{0, 0, 0},
		{0, 1, 1},
		{0, -1, 0},
		{12, 11, 0},
		{12, 12, 0},
		{12, 13, 1},
		{12, math.MinInt, 0},
		{0, api.Most, api.Most},
		{0, math.MaxInt, api.Most},
		{12, math.MaxInt, api.Most - 12},
		{api.Most - 1, api.Most + 1, 1},
		{api.Most, api.Most, 0},
		{api.Most, math.MaxInt, 0},
		{api.Most, math.MinInt, 0},
	} {
		if got := vclock.New(c.now).Left(c.until); got != c.want {
			t.Errorf("Left(%d) at %d = %d, want %d", c.until, c.now, got, c.want)
		}
	}
	c := vclock.New(3)
	c.Left(9)
	shows(t, c, 3, 0)
}

func TestCopy(t *testing.T) { // P5.1
	c := vclock.New(5)
	c.Tick(7)
	d := c.Copy()
	shows(t, d, 12, 1)
	d.Tick(1)
	d.Tick(1)
	shows(t, c, 12, 1)
	shows(t, d, 14, 3)
	c.Tick(100)
	shows(t, c, 112, 2)
	shows(t, d, 14, 3)
}

func TestNil(t *testing.T) { // P5.1, P5.2
	var c *vclock.Clock
	if c.Now() != 0 || c.Ticks() != 0 || c.Left(7) != 0 || c.Left(-7) != 0 || c.Copy() != nil {
		t.Error("nil clock")
	}
	for _, n := range []int{0, 1, -1, math.MaxInt} {
		if e := c.Tick(n); e != api.ErrArg {
			t.Errorf("Tick(%d) of nil = %d", n, e)
		}
	}
}

func TestTimeNeverGoesBack(t *testing.T) { // P5.3
	r := rand.New(rand.NewSource(1))
	for _, at := range []int{0, 1 << 40, api.Most - 1<<20} {
		c := vclock.New(at)
		for range 500 {
			before := c.Now()
			c.Tick(int(r.Uint64()) >> r.Intn(64))
			if c.Now() < before {
				t.Fatalf("from %d to %d", before, c.Now())
			}
		}
	}
}

func TestSplitTicks(t *testing.T) { // P5.3
	r := rand.New(rand.NewSource(2))
	for _, at := range []int{0, 77, api.Most - 1000} {
		for range 100 {
			one, split := vclock.New(at), vclock.New(at)
			n := r.Intn(5000)
			one.Tick(n)
			for n > 0 {
				part := r.Intn(n) + 1
				split.Tick(part)
				n -= part
			}
			if one.Now() != split.Now() {
				t.Errorf("%d and %d", one.Now(), split.Now())
			}
		}
	}
}
