package sat_test

import (
	"math"
	"math/big"
	"testing"

	"flashlock/api"
	"flashlock/sat"
)

// samples are the bounds, their neighbours and numbers whose products cross them.
var samples = []int{
	0, 1, 2, 3, 7, 10, 63, 64, 1000003, 1<<20 - 1, 1 << 29, 1<<30 - 1, 1 << 30, 1<<30 + 1, 1 << 31,
	1<<32 - 1, 1 << 32, 1<<40 + 12345, 999999999999999989, 1 << 59, 1<<59 + 1,
	api.Most - 1, api.Most, api.Most + 1, 1 << 61, 1 << 62, math.MaxInt - 1, math.MaxInt,
	-1, -2, -3, -7, -1000003, -1 << 30, -1<<30 - 1, -1 << 31, -1 << 40, -1 << 59,
	-api.Most + 1, -api.Most, -api.Most - 1, -1 << 61, -1 << 62, math.MinInt + 1, math.MinInt,
}

var most = big.NewInt(api.Most)

func number(x int) *big.Int { return big.NewInt(int64(x)) }

func clamp(x *big.Int) *big.Int {
	if x.CmpAbs(most) <= 0 {
		return x
	}
	if x.Sign() < 0 {
		return new(big.Int).Neg(most)
	}
	return most
}

func TestHold(t *testing.T) { // P1.1
	for _, x := range samples {
		if got, want := sat.Hold(x), int(clamp(number(x)).Int64()); got != want {
			t.Errorf("Hold(%d) = %d, want %d", x, got, want)
		}
	}
}

func TestClampedArithmetic(t *testing.T) { // P1.1
	calls := []struct {
		name  string
		call  func(a, b int) int
		exact func(z, a, b *big.Int) *big.Int
	}{
		{"Add", sat.Add, (*big.Int).Add},
		{"Sub", sat.Sub, (*big.Int).Sub},
		{"Mul", sat.Mul, (*big.Int).Mul},
	}
	for _, c := range calls {
		for _, a := range samples {
			for _, b := range samples {
				want := clamp(c.exact(new(big.Int), clamp(number(a)), clamp(number(b)))).Int64()
				if got := c.call(a, b); got != int(want) {
					t.Errorf("%s(%d, %d) = %d, want %d", c.name, a, b, got, want)
				}
			}
		}
	}
}

func TestExactArithmetic(t *testing.T) { // P1.2
	calls := []struct {
		name  string
		call  func(a, b int) (int, bool)
		exact func(z, a, b *big.Int) *big.Int
	}{
		{"Sum", sat.Sum, (*big.Int).Add},
		{"Diff", sat.Diff, (*big.Int).Sub},
	}
	for _, c := range calls {
		for _, a := range samples {
			for _, b := range samples {
				exact := c.exact(new(big.Int), number(a), number(b))
				want, wantOK := 0, exact.IsInt64()
				if wantOK {
					want = int(exact.Int64())
				}
				if got, ok := c.call(a, b); got != want || ok != wantOK {
					t.Errorf("%s(%d, %d) = %d, %t, want %d, %t", c.name, a, b, got, ok, want, wantOK)
				}
			}
		}
	}
}

func TestExactBounds(t *testing.T) { // P1.2
	if n, ok := sat.Sum(math.MaxInt, 1); n != 0 || ok {
		t.Error("Sum above the greatest number", n, ok)
	}
	if n, ok := sat.Sum(math.MinInt, -1); n != 0 || ok {
		t.Error("Sum below the least number", n, ok)
	}
	if n, ok := sat.Diff(-1, math.MinInt); n != math.MaxInt || !ok {
		t.Error("Diff up to the greatest number", n, ok)
	}
	if n, ok := sat.Diff(0, math.MinInt); n != 0 || ok {
		t.Error("Diff above the greatest number", n, ok)
	}
}

// quotients are the results of Part and Up, calculated without a bound.
func quotients(a, b, c int) (down, up int) {
	if a < 0 || a > api.Most || b < 0 || b > api.Most || c < 1 || c > api.Most {
		return 0, 0
	}
	q, rest := new(big.Int).DivMod(new(big.Int).Mul(number(a), number(b)), number(c), new(big.Int))
	above := q
	if rest.Sign() > 0 {
		above = new(big.Int).Add(q, big.NewInt(1))
	}
	return int(clamp(q).Int64()), int(clamp(above).Int64())
}

func TestPartAndUp(t *testing.T) { // P1.3
	for _, a := range samples {
		for _, b := range samples {
			for _, c := range samples {
				down, up := quotients(a, b, c)
				if got := sat.Part(a, b, c); got != down {
					t.Errorf("Part(%d, %d, %d) = %d, want %d", a, b, c, got, down)
				}
				if got := sat.Up(a, b, c); got != up {
					t.Errorf("Up(%d, %d, %d) = %d, want %d", a, b, c, got, up)
				}
			}
		}
	}
}

func TestPartAndUpBounds(t *testing.T) { // P1.3
	rows := []struct{ a, b, c, down, up int }{
		{7, 3, 2, 10, 11},
		{6, 3, 2, 9, 9},
		{0, 5, 3, 0, 0},
		{1, 1, api.Most, 0, 1},
		{api.Most, api.Most, api.Most, api.Most, api.Most},
		{api.Most, api.Most, 1, api.Most, api.Most},
		{api.Most, api.Most, api.Most - 1, api.Most, api.Most},
		{api.Most, api.Most - 1, api.Most, api.Most - 1, api.Most - 1},
		{api.Most - 1, api.Most - 1, api.Most, api.Most - 2, api.Most - 1},
		{-1, 3, 2, 0, 0},
		{3, -1, 2, 0, 0},
		{3, 3, 0, 0, 0},
		{3, 3, -2, 0, 0},
		{api.Most + 1, 1, 1, 0, 0},
		{1, api.Most + 1, 1, 0, 0},
		{1, 1, api.Most + 1, 0, 0},
		{math.MinInt, math.MinInt, math.MinInt, 0, 0},
	}
	for _, r := range rows {
		if got := sat.Part(r.a, r.b, r.c); got != r.down {
			t.Errorf("Part(%d, %d, %d) = %d, want %d", r.a, r.b, r.c, got, r.down)
		}
		if got := sat.Up(r.a, r.b, r.c); got != r.up {
			t.Errorf("Up(%d, %d, %d) = %d, want %d", r.a, r.b, r.c, got, r.up)
		}
	}
}

func TestExamples(t *testing.T) {
	if got := sat.Add(1<<60, 1); got != 1<<60 {
		t.Error("Add(2^60, 1)", got)
	}
	if got := sat.Part(7, 3, 2); got != 10 {
		t.Error("Part(7, 3, 2)", got)
	}
	if got := sat.Up(7, 3, 2); got != 11 {
		t.Error("Up(7, 3, 2)", got)
	}
}

func TestBound(t *testing.T) { // P1.4
	for _, a := range samples {
		for _, b := range samples {
			for _, got := range []int{sat.Hold(a), sat.Add(a, b), sat.Sub(a, b), sat.Mul(a, b), sat.Part(a, b, 1), sat.Up(a, b, 3)} {
				if got > api.Most || got < -api.Most {
					t.Fatalf("a result for %d and %d is %d", a, b, got)
				}
			}
		}
	}
}

func TestAddIsMonotonic(t *testing.T) { // P1.4
	for _, a := range samples {
		for _, b := range samples {
			for _, c := range samples {
				if a > b {
					continue
				}
				if sat.Add(a, c) > sat.Add(b, c) || sat.Add(c, a) > sat.Add(c, b) {
					t.Fatalf("Add of %d and Add of %d to %d", a, b, c)
				}
			}
		}
	}
}

func TestSubUndoesAdd(t *testing.T) { // P1.4
	for _, a := range samples {
		for _, b := range samples {
			sum, ok := sat.Sum(a, b)
			if !ok || sat.Hold(a) != a || sat.Hold(b) != b || sat.Hold(sum) != sum {
				continue
			}
			if got := sat.Sub(sat.Add(a, b), b); got != a {
				t.Fatalf("Sub(Add(%d, %d), %d) = %d", a, b, b, got)
			}
		}
	}
}
