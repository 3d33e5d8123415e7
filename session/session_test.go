package session_test

import (
	"math"
	"math/rand"
	"slices"
	"testing"

	"flashlock/api"
	"flashlock/edit"
	"flashlock/session"
)

var (
	// numbers are those of sessions; others are not.
	numbers = []int{0, 1, 2, 3, 4, 5, 6, 7, 8, 9, 10, 11, 12, 13, 14, 15}
	others  = []int{-1, 16, 17, 64, -16, math.MinInt, math.MaxInt, math.MinInt32, 1 << 32}
)

func withID(op, id int) api.Edit { return api.Edit{Op: op, ID: id} }

// drop returns an edit that is told from others by its number.
func drop(n int) api.Edit { return withID(api.DropClass, n+1) }

func opens(t *testing.T, s *session.Table, id, version int) {
	t.Helper()
	if e := s.Open(id, version); e != api.OK {
		t.Errorf("Open(%d, %d) = %d", id, version, e)
	}
}

func opensNot(t *testing.T, s *session.Table, id int, want api.Errno) {
	t.Helper()
	if e := s.Open(id, 5); e != want {
		t.Errorf("Open(%d) = %d, not %d", id, e, want)
	}
}

func closes(t *testing.T, s *session.Table, id int, want api.Errno) {
	t.Helper()
	if e := s.Close(id); e != want {
		t.Errorf("Close(%d) = %d, not %d", id, e, want)
	}
}

func stages(t *testing.T, s *session.Table, id int, x api.Edit, want int) {
	t.Helper()
	if n, e := s.Stage(id, x); n != want || e != api.OK {
		t.Errorf("Stage(%d, %+v) = %d, %d, not %d", id, x, n, e, want)
	}
}

func stagesNot(t *testing.T, s *session.Table, id int, x api.Edit, want api.Errno) {
	t.Helper()
	if n, e := s.Stage(id, x); n != 0 || e != want {
		t.Errorf("Stage(%d, %+v) = %d, %d, not %d", id, x, n, e, want)
	}
}

func logs(t *testing.T, s *session.Table, id, version int, want ...api.Edit) {
	t.Helper()
	if v, l, ok := s.Log(id); v != version || !slices.EqualFunc(l, want, edit.Same) || !ok {
		t.Errorf("Log(%d) = %d, %+v, %v, not %d, %+v", id, v, l, ok, version, want)
	}
}

func logsNot(t *testing.T, s *session.Table, id int) {
	t.Helper()
	if v, l, ok := s.Log(id); v != 0 || len(l) != 0 || ok {
		t.Errorf("Log(%d) = %d, %+v, %v", id, v, l, ok)
	}
}

func hasOpen(t *testing.T, s *session.Table, want ...int) {
	t.Helper()
	if got := s.Opens(); !slices.Equal(got, want) {
		t.Errorf("Opens = %v, not %v", got, want)
	}
}

// full returns a table whose session 2 has 64 edits.
func full(t *testing.T) *session.Table {
	t.Helper()
	s := session.New()
	opens(t, s, 2, 9)
	for n := range 64 {
		stages(t, s, 2, drop(n), n+1)
	}
	return s
}

// drops returns the edits of the session 2 of full.
func drops() []api.Edit {
	var l []api.Edit
	for n := range 64 {
		l = append(l, drop(n))
	}
	return l
}

func TestExample(t *testing.T) { // P40.1, P40.2
	s := session.New()
	opens(t, s, 3, 7)
	stages(t, s, 3, withID(api.SetRule, 1), 1)
	logs(t, s, 3, 7, withID(api.SetRule, 1))
}

func TestNew(t *testing.T) { // P40.1
	s := session.New()
	hasOpen(t, s)
	for _, id := range numbers {
		logsNot(t, s, id)
		closes(t, s, id, api.ErrState)
		stagesNot(t, s, id, drop(0), api.ErrState)
	}
	hasOpen(t, s)
}

func TestOpen(t *testing.T) { // P40.1
	s := session.New()
	for i, id := range []int{15, 0, 7, 8, 1, 14} {
		opens(t, s, id, i-2)
		logs(t, s, id, i-2)
		opensNot(t, s, id, api.ErrState)
		logs(t, s, id, i-2)
	}
	hasOpen(t, s, 0, 1, 7, 8, 14, 15)
	for _, id := range others {
		opensNot(t, s, id, api.ErrSession)
	}
	hasOpen(t, s, 0, 1, 7, 8, 14, 15)
	for _, id := range numbers {
		s.Open(id, 1)
	}
	hasOpen(t, s, numbers...)
	for _, version := range []int{math.MinInt, -1, 0, 1, math.MaxInt} {
		s := session.New()
		opens(t, s, 0, version)
		logs(t, s, 0, version)
		hasOpen(t, s, 0)
	}
}

func TestOpenTwice(t *testing.T) { // P40.1: the version and the edits stay
	s := session.New()
	opens(t, s, 4, 8)
	stages(t, s, 4, drop(1), 1)
	opensNot(t, s, 4, api.ErrState)
	logs(t, s, 4, 8, drop(1))
	stages(t, s, 4, drop(2), 2)
}

func TestClose(t *testing.T) { // P40.1, P40.3
	s := session.New()
	opens(t, s, 6, 3)
	opens(t, s, 5, 4)
	stages(t, s, 6, drop(1), 1)
	stages(t, s, 5, drop(2), 1)
	closes(t, s, 6, api.OK)
	hasOpen(t, s, 5)
	logsNot(t, s, 6)
	closes(t, s, 6, api.ErrState)
	stagesNot(t, s, 6, drop(3), api.ErrState)
	logs(t, s, 5, 4, drop(2))
	for _, id := range others {
		closes(t, s, id, api.ErrSession)
	}
	closes(t, s, 7, api.ErrState)
	hasOpen(t, s, 5)
	// Opened again, it has retained nothing.
	opens(t, s, 6, -3)
	logs(t, s, 6, -3)
	stages(t, s, 6, drop(4), 1)
	logs(t, s, 6, -3, drop(4))
	for range 3 {
		s := full(t)
		closes(t, s, 2, api.OK)
		opens(t, s, 2, 10)
		logs(t, s, 2, 10)
		stages(t, s, 2, drop(70), 1)
		logs(t, s, 2, 10, drop(70))
	}
}

func TestStageErrors(t *testing.T) { // P40.2
	wrong := api.Edit{Op: 10}
	s := full(t)
	opens(t, s, 3, 1)
	for _, id := range others {
		stagesNot(t, s, id, drop(1), api.ErrSession)
		stagesNot(t, s, id, wrong, api.ErrSession)
	}
	// An edit that is wrong counts after the session, and before its number of edits.
	for _, id := range []int{0, 1, 4, 15} {
		stagesNot(t, s, id, drop(1), api.ErrState)
		stagesNot(t, s, id, wrong, api.ErrState)
	}
	for _, c := range []struct {
		x    api.Edit
		want api.Errno
	}{
		{api.Edit{}, api.ErrKind}, {wrong, api.ErrKind}, {api.Edit{Op: -1}, api.ErrKind},
		{withID(api.DropClass, 0), api.ErrRange}, {withID(api.DropFilter, 65536), api.ErrRange}, {withID(api.SetDefault, -1), api.ErrRange},
		{withID(api.SetRule, 3), api.ErrKind}, {withID(api.Move, 1), api.ErrRange},
		{api.Edit{Op: api.AddClass, Class: api.Class{ID: 1, Share: math.NaN()}}, api.ErrFloat},
		{api.Edit{Op: api.SetClass, Class: api.Class{ID: 1, Share: math.Inf(1)}}, api.ErrShare},
		{api.Edit{Op: api.AddFilter}, edit.Right(api.Edit{Op: api.AddFilter})},
	} {
		if c.want == api.OK {
			t.Fatal("a valid edit")
		}
		stagesNot(t, s, 2, c.x, c.want)
		stagesNot(t, s, 3, c.x, c.want)
	}
	stagesNot(t, s, 2, drop(1), api.ErrFull)
	logs(t, s, 3, 1)
	logs(t, s, 2, 9, drops()...)
	stages(t, s, 3, drop(1), 1)
}

func TestManyEdits(t *testing.T) { // P40.2
	s := full(t)
	opens(t, s, 1, 0)
	for n := range 3 {
		stagesNot(t, s, 2, drop(64+n), api.ErrFull)
	}
	logs(t, s, 2, 9, drops()...)
	stages(t, s, 1, drop(99), 1)
	logs(t, s, 1, 0, drop(99))
	closes(t, s, 2, api.OK)
	opens(t, s, 2, 9)
	for n := range 64 {
		stages(t, s, 2, drop(n), n+1)
	}
	stagesNot(t, s, 2, drop(1), api.ErrFull)
}

func TestEveryEdit(t *testing.T) { // P40.2: an edit is kept as it is, with what its operation does not use
	all := api.Span{High: 65535}
	c := api.Class{ID: 7, Share: 0.3, Quantum: 5, Limit: 6, Weight: 1, MinIdle: -2, MaxIdle: 3, Prio: 4, Bounded: true}
	f := api.Filter{ID: 8, Proto: -1, SrcPorts: all, DstPorts: all, Leaf: 9}
	s := session.New()
	opens(t, s, 0, 1)
	var want []api.Edit
	for op := api.AddClass; op <= api.Move; op++ {
		x := api.Edit{Op: op, Class: c, Filter: f, ID: 2, To: 3}
		want = append(want, x)
		stages(t, s, 0, x, op)
		logs(t, s, 0, 1, want...)
	}
	odd := withID(api.SetRule, 0)
	odd.Class.Share, odd.To = math.NaN(), -5
	stages(t, s, 0, odd, 10)
	logs(t, s, 0, 1, append(want, odd)...)
}

func TestLog(t *testing.T) { // P40.2
	s := session.New()
	opens(t, s, 0, 5)
	for _, id := range append(slices.Clone(others), 1, 15) {
		logsNot(t, s, id)
	}
	logs(t, s, 0, 5)
	hasOpen(t, s, 0)
}

func TestLogsApart(t *testing.T) { // P40.2: neither appending to a list nor staging an edit shows elsewhere
	s := session.New()
	opens(t, s, 1, 1)
	for n := range 20 {
		_, before, _ := s.Log(1)
		kept := slices.Clone(before)
		stranger := append(before, drop(1000))
		_ = append(stranger, drop(1001), drop(1002))
		stages(t, s, 1, drop(n), n+1)
		if len(stranger) != n+1 || stranger[n] != drop(1000) {
			t.Error("the table writes to a list that was appended to")
		}
		if !slices.Equal(before, kept) {
			t.Error("staging changes a list that was returned before")
		}
		_, after, _ := s.Log(1)
		if len(after) != n+1 || after[n] != drop(n) {
			t.Fatalf("Log = %+v", after)
		}
		_ = append(after, drop(2000))
		_, again, _ := s.Log(1)
		if cap(again) != len(again) || !slices.Equal(again, after) {
			t.Error("appending to a list shows in the table")
		}
	}
	_, l, _ := s.Log(1)
	kept := slices.Clone(l)
	closes(t, s, 1, api.OK)
	if !slices.Equal(l, kept) {
		t.Error("closing changes a list that was returned before")
	}
	opens(t, s, 1, 2)
	stages(t, s, 1, drop(500), 1)
	stages(t, s, 1, drop(501), 2)
	if !slices.Equal(l, kept) {
		t.Error("a session that was opened again writes to a list of the one before")
	}
}

func TestSessionsApart(t *testing.T) { // P40.3
	s := session.New()
	for _, id := range numbers {
		opens(t, s, id, id*10)
	}
	for n := range 5 {
		for _, id := range numbers {
			stages(t, s, id, drop(100*id+n), n+1)
		}
	}
	for _, id := range numbers {
		logs(t, s, id, id*10, drop(100*id), drop(100*id+1), drop(100*id+2), drop(100*id+3), drop(100*id+4))
	}
	closes(t, s, 4, api.OK)
	for _, id := range numbers {
		if id != 4 {
			logs(t, s, id, id*10, drop(100*id), drop(100*id+1), drop(100*id+2), drop(100*id+3), drop(100*id+4))
		}
	}
	other := session.New()
	hasOpen(t, other)
}

func TestCopy(t *testing.T) { // P40.2
	s := session.New()
	opens(t, s, 3, 7)
	opens(t, s, 9, 8)
	stages(t, s, 3, drop(1), 1)
	stages(t, s, 3, drop(2), 2)
	stages(t, s, 3, drop(3), 3) // leaves room for another one in most lists that grow
	c := s.Copy()
	if c == s {
		t.Fatal("Copy returns its table")
	}
	hasOpen(t, c, 3, 9)
	logs(t, c, 3, 7, drop(1), drop(2), drop(3))
	logs(t, c, 9, 8)
	// Both go on, neither sees the other.
	stages(t, s, 3, drop(10), 4)
	stages(t, c, 3, drop(20), 4)
	logs(t, s, 3, 7, drop(1), drop(2), drop(3), drop(10))
	logs(t, c, 3, 7, drop(1), drop(2), drop(3), drop(20))
	d := s.Copy()
	stages(t, d, 3, drop(30), 5)
	stages(t, s, 3, drop(11), 5)
	stages(t, s.Copy(), 3, drop(31), 6)
	logs(t, s, 3, 7, drop(1), drop(2), drop(3), drop(10), drop(11))
	logs(t, d, 3, 7, drop(1), drop(2), drop(3), drop(10), drop(30))
	closes(t, s, 3, api.OK)
	opens(t, s, 4, 1)
	hasOpen(t, s, 4, 9)
	hasOpen(t, c, 3, 9)
	closes(t, c, 9, api.OK)
	hasOpen(t, s, 4, 9)
	logs(t, c, 3, 7, drop(1), drop(2), drop(3), drop(20))
	opens(t, s, 3, 2)
	stages(t, s, 3, drop(40), 1)
	logs(t, c, 3, 7, drop(1), drop(2), drop(3), drop(20))
	e := full(t)
	stagesNot(t, e.Copy(), 2, drop(1), api.ErrFull)
}

func TestNil(t *testing.T) { // P40.2
	var s *session.Table
	for _, id := range slices.Concat(numbers, others) {
		opensNot(t, s, id, api.ErrArg)
		closes(t, s, id, api.ErrArg)
		stagesNot(t, s, id, drop(1), api.ErrArg)
		stagesNot(t, s, id, api.Edit{}, api.ErrArg)
		logsNot(t, s, id)
	}
	hasOpen(t, s)
	if s.Copy() != nil {
		t.Error("Copy of nil")
	}
}

// record is what a map knows of an open session.
type record struct {
	version int
	edits   []api.Edit
}

func TestSecondImplementation(t *testing.T) { // P40.1, P40.2, P40.3
	r := rand.New(rand.NewSource(40))
	for range 40 {
		s, m := session.New(), map[int]record{}
		for range 300 {
			id := r.Intn(20) - 2
			known, open := m[id]
			want := api.OK
			if id < 0 || id > 15 {
				want = api.ErrSession
			}
			switch r.Intn(12) {
			case 0:
				if want == api.OK && open {
					want = api.ErrState
				}
				version := r.Intn(100)
				if e := s.Open(id, version); e != want {
					t.Fatalf("Open(%d) = %d, not %d", id, e, want)
				}
				if want == api.OK {
					m[id] = record{version: version}
				}
			case 1:
				if want == api.OK && !open {
					want = api.ErrState
				}
				if r.Intn(4) == 0 {
					closes(t, s, id, want)
					if want == api.OK {
						delete(m, id)
					}
				}
			case 2:
				s = s.Copy()
			default:
				x := withID(1+r.Intn(10), r.Intn(4)-1)
				switch {
				case want != api.OK:
				case !open:
					want = api.ErrState
				case edit.Right(x) != api.OK:
					want = edit.Right(x)
				case len(known.edits) == 64:
					want = api.ErrFull
				}
				if want != api.OK {
					stagesNot(t, s, id, x, want)
					continue
				}
				known.edits = append(slices.Clone(known.edits), x)
				m[id] = known
				stages(t, s, id, x, len(known.edits))
			}
			var open16 []int
			for id := range 16 {
				if known, ok := m[id]; ok {
					open16 = append(open16, id)
					logs(t, s, id, known.version, known.edits...)
				} else {
					logsNot(t, s, id)
				}
			}
			hasOpen(t, s, open16...)
		}
	}
}

func TestAnything(t *testing.T) { // P6
	for _, s := range []*session.Table{nil, session.New(), full(t)} {
		for _, id := range slices.Concat(numbers, others) {
			for _, n := range slices.Concat(numbers, others) {
				s.Open(id, n)
				s.Stage(id, api.Edit{Op: n, Class: api.Class{ID: n, Share: math.NaN()}, Filter: api.Filter{ID: n}, ID: n, To: id})
				s.Log(n)
				s.Copy().Close(n)
			}
			s.Opens()
			s.Close(id)
			s.Close(id)
		}
	}
}
