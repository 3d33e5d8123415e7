package cutoff_test

import (
	"math"
	"slices"
	"testing"

	"flashlock/api"
	"flashlock/cutoff"
)

var levels = []int{math.MinInt, -1, 0, 1, 2, 5, api.MaxLevel - 1, api.MaxLevel, cutoff.None, cutoff.None + 1, math.MaxInt}

var both = []bool{false, true}

func TestConstants(t *testing.T) { // P28.1, P28.2
	if got := []int{cutoff.None, cutoff.Comes, cutoff.Goes}; !slices.Equal(got, []int{9, 0, 1}) {
		t.Error(got)
	}
}

func TestCome(t *testing.T) { // P28.1
	rows := []struct {
		top, lender int
		over        bool
		want        int
	}{
		{9, 0, false, 1},
		{9, 3, false, 1},
		{1, 5, false, 1},
		{0, 0, false, 1},
		{9, 3, true, 3},
		{3, 9, true, 3},
		{3, 3, true, 3},
		{5, 1, true, 1},
		{9, 0, true, 9},
		{2, 0, true, 2},
		{2, -1, true, 2},
		{-4, 2, true, -4},
		{math.MaxInt, math.MinInt, true, math.MaxInt},
		{math.MaxInt, math.MaxInt, true, math.MaxInt},
	}
	for _, r := range rows {
		if got := cutoff.Come(r.top, r.lender, r.over); got != r.want {
			t.Errorf("Come(%d, %d, %t) = %d, want %d", r.top, r.lender, r.over, got, r.want)
		}
	}
}

func TestGone(t *testing.T) { // P28.1
	rows := []struct {
		top, level  int
		over, empty bool
		want        int
	}{
		{1, 1, false, true, 9},
		{1, 1, true, false, 9},
		{1, 1, true, true, 9},
		{1, 1, false, false, 1},
		{3, 2, true, false, 9},
		{3, 2, false, true, 9},
		{3, 2, false, false, 3},
		{3, 4, true, true, 3},
		{3, 4, false, true, 3},
		{3, 4, true, false, 3},
		{9, 8, false, false, 9},
		{12, 1, true, false, 9},
		{0, -1, false, true, 9},
		{math.MinInt, math.MaxInt, true, true, math.MinInt},
	}
	for _, r := range rows {
		if got := cutoff.Gone(r.top, r.level, r.over, r.empty); got != r.want {
			t.Errorf("Gone(%d, %d, %t, %t) = %d, want %d", r.top, r.level, r.over, r.empty, got, r.want)
		}
	}
}

func TestRun(t *testing.T) { // P28.2
	rows := []struct {
		name string
		top  int
		l    []cutoff.Event
		want int
	}{
		{"no list", 4, nil, 4},
		{"an empty list", 4, []cutoff.Event{}, 4},
		{"a packet comes", 9, []cutoff.Event{{Kind: cutoff.Comes}}, 1},
		{"one comes to a leaf that is over", 9, []cutoff.Event{{Kind: cutoff.Comes, Level: 3, Over: true}}, 3},
		{"Empty does not count when one comes", 9, []cutoff.Event{{Kind: cutoff.Comes, Level: 3, Over: true, Empty: true}}, 3},
		{"one goes", 2, []cutoff.Event{{Kind: cutoff.Goes, Level: 2, Empty: true}}, 9},
		{"one goes by a class that is over", 2, []cutoff.Event{{Kind: cutoff.Goes, Level: 1, Over: true}}, 9},
		{"one goes above the top", 2, []cutoff.Event{{Kind: cutoff.Goes, Level: 3, Over: true, Empty: true}}, 2},
		{"in order", 9, []cutoff.Event{{Kind: cutoff.Goes, Level: 1, Empty: true}, {Kind: cutoff.Comes}}, 1},
		{"in the other order", 9, []cutoff.Event{{Kind: cutoff.Comes}, {Kind: cutoff.Goes, Level: 1, Empty: true}}, 9},
		{"other kinds", 5, []cutoff.Event{{Kind: 2, Empty: true}, {Kind: -1}, {Kind: math.MaxInt}, {Kind: math.MinInt, Over: true}}, 5},
		{"other kinds between", 9, []cutoff.Event{{Kind: 7}, {Kind: cutoff.Comes, Level: 4, Over: true}, {Kind: 2}, {Kind: cutoff.Comes, Level: 2, Over: true}, {Kind: -1}}, 2},
	}
	for _, r := range rows {
		before := slices.Clone(r.l)
		if got := cutoff.Run(r.top, r.l); got != r.want {
			t.Errorf("%s: Run = %d, want %d", r.name, got, r.want)
		}
		if !slices.Equal(before, r.l) {
			t.Errorf("%s: the list was changed", r.name)
		}
	}
}

func TestRunAppliesComeAndGone(t *testing.T) { // P28.2
	for _, top := range levels {
		for _, level := range levels {
			for _, over := range both {
				for _, empty := range both {
					come := cutoff.Event{Kind: cutoff.Comes, Level: level, Over: over, Empty: empty}
					gone := cutoff.Event{Kind: cutoff.Goes, Level: level, Over: over, Empty: empty}
					want := cutoff.Gone(cutoff.Come(top, level, over), level, over, empty)
					if got := cutoff.Run(top, []cutoff.Event{come, gone}); got != want {
						t.Errorf("Run(%d) of %v, %v = %d, want %d", top, come, gone, got, want)
					}
				}
			}
		}
	}
}

func TestDirections(t *testing.T) { // P28.3
	for _, top := range levels {
		for _, level := range levels {
			for _, over := range both {
				if got := cutoff.Come(top, level, over); got > top && top >= 1 {
					t.Errorf("Come(%d, %d, %t) = %d", top, level, over, got)
				}
				for _, empty := range both {
					if got := cutoff.Gone(top, level, over, empty); got < top && top <= cutoff.None {
						t.Errorf("Gone(%d, %d, %t, %t) = %d", top, level, over, empty, got)
					}
				}
			}
		}
	}
}
