package wire_test

import (
	"math"
	"math/rand"
	"slices"
	"strings"
	"testing"

	"flashlock/api"
	"flashlock/octets"
	"flashlock/pack"
	"flashlock/wire"
)

var wild = []int{math.MinInt, math.MinInt32, -65536, -256, -1, 0, 1, 2, 3, 4, 5, 6, 7, 8, 9, 10, 15, 16, 127, 128, 255, 256, 257, 258, 259, 263, 65535, 65536, 1 << 32, 1 << 60, math.MaxInt}

var withSession = []int{api.CmdOpen, api.CmdStage, api.CmdCommit, api.CmdAbort}

var some = api.Edit{
	Class:  api.Class{ID: 5, Parent: 1, Share: 0.25, Prio: 3, Quantum: 1500, Limit: 7, Weight: 2, MinIdle: -9, MaxIdle: 9, Bounded: true},
	Filter: api.Filter{ID: 6, Prio: 2, Version: 4, Src: api.Addr{Hi: 1, Lo: 2}, SrcLen: 8, Proto: 17, DstPorts: api.Span{Low: 1, High: 65535}, Leaf: 5},
	ID:     300, To: -70000,
}

// edit returns an edit of that operation, with all fields.
func edit(op int) api.Edit {
	e := some
	e.Op = op
	return e
}

// command returns a command that has all fields.
func command(op int) api.Command {
	return api.Command{Op: op, Session: 11, ID: 77, Edit: edit(api.Move)}
}

// used returns c with nothing but the fields that its Op uses.
func used(c api.Command) api.Command {
	u := api.Command{Op: c.Op}
	if slices.Contains(withSession, c.Op) {
		u.Session = c.Session
	}
	switch c.Op {
	case api.CmdStage:
		u.Edit.Op = c.Edit.Op
		switch c.Edit.Op {
		case api.AddClass, api.SetClass:
			u.Edit.Class = c.Edit.Class
		case api.AddFilter, api.SetFilter:
			u.Edit.Filter = c.Edit.Filter
		case api.Move:
			u.Edit.ID, u.Edit.To = c.Edit.ID, c.Edit.To
		default:
			u.Edit.ID = c.Edit.ID
		}
	case api.CmdStat:
		u.ID = c.ID
	}
	return u
}

func encodes(t *testing.T, c api.Command, want string) {
	t.Helper()
	if got, e := wire.Encode(c); got != want || e != api.OK {
		t.Errorf("Encode(%+v) = %q, %v, not %q", c, got, e, want)
	}
	if e := wire.Right(c); e != api.OK {
		t.Errorf("Right(%+v) = %v", c, e)
	}
	if got, e := wire.Decode(want); got != used(c) || e != api.OK {
		t.Errorf("Decode(%q) = %+v, %v, not %+v", want, got, e, used(c))
	}
}

func wrong(t *testing.T, c api.Command, want api.Errno) {
	t.Helper()
	if e := wire.Right(c); e != want {
		t.Errorf("Right(%+v) = %v, not %v", c, e, want)
	}
	if s, e := wire.Encode(c); s != "" || e != want {
		t.Errorf("Encode(%+v) = %q, %v, not %v", c, s, e, want)
	}
}

func fails(t *testing.T, s string, want api.Errno) {
	t.Helper()
	if c, e := wire.Decode(s); c != (api.Command{}) || e != want {
		t.Errorf("Decode(%q) = %+v, %v, not %v", s, c, e, want)
	}
}

func TestExamples(t *testing.T) { // P38.1, P38.2
	encodes(t, api.Command{Op: api.CmdCommit, Session: 3}, "\x03\x03")
	fails(t, "\x03\x10", api.ErrSession)
}

func TestOps(t *testing.T) { // P38.1, P38.2: the bytes of each Op, whatever fields it does not use
	encodes(t, command(api.CmdOpen), "\x01\x0b")
	encodes(t, command(api.CmdStage), "\x02\x0b"+pack.PutEdit(edit(api.Move)))
	encodes(t, command(api.CmdCommit), "\x03\x0b")
	encodes(t, command(api.CmdAbort), "\x04\x0b")
	encodes(t, command(api.CmdRollback), "\x05")
	encodes(t, command(api.CmdVersion), "\x06")
	encodes(t, command(api.CmdStat), "\x07\x9a\x01")
	encodes(t, command(api.CmdShow), "\x08")
	for _, n := range wild {
		// An Op without a session does not care for it, nor one without an edit for that.
		encodes(t, api.Command{Op: api.CmdOpen, Session: 0, ID: n, Edit: edit(n)}, "\x01\x00")
		encodes(t, api.Command{Op: api.CmdRollback, Session: n, ID: n, Edit: edit(n)}, "\x05")
		encodes(t, api.Command{Op: api.CmdVersion, Session: n, ID: n, Edit: edit(n)}, "\x06")
		encodes(t, api.Command{Op: api.CmdStat, Session: n, ID: 3, Edit: edit(n)}, "\x07\x06")
		encodes(t, api.Command{Op: api.CmdShow, Session: n, ID: n, Edit: edit(n)}, "\x08")
		encodes(t, api.Command{Op: api.CmdStage, Session: 1, ID: n, Edit: api.Edit{Op: api.SetRule, ID: 2, To: n}}, "\x02\x01\x10\x04")
		if n < 1 || n > 8 {
			wrong(t, command(n), api.ErrKind)
			wrong(t, api.Command{Op: n, Session: -1}, api.ErrKind)
		}
	}
}

func TestSessions(t *testing.T) { // P38.1, P38.2
	for _, op := range withSession {
		c := command(op)
		tail := ""
		if op == api.CmdStage {
			tail = pack.PutEdit(c.Edit)
		}
		for session := range 16 {
			c.Session = session
			encodes(t, c, string([]byte{byte(op), byte(session)})+tail)
		}
		for _, n := range wild {
			c.Session = n
			if n < 0 || n > 15 {
				wrong(t, c, api.ErrSession)
			}
		}
		fails(t, string([]byte{byte(op)}), api.ErrShort)
		for session := 16; session < 256; session++ {
			s := string([]byte{byte(op), byte(session)})
			fails(t, s, api.ErrSession)
			fails(t, s+tail, api.ErrSession)
			fails(t, s+"\xff", api.ErrSession)
		}
	}
}

func TestEdits(t *testing.T) { // P38.1, P38.2
	for op := api.AddClass; op <= api.Move; op++ {
		encodes(t, api.Command{Op: api.CmdStage, Session: 15, Edit: edit(op)}, "\x02\x0f"+pack.PutEdit(edit(op)))
		// What the edit says need not be right.
		encodes(t, api.Command{Op: api.CmdStage, Edit: api.Edit{Op: op, ID: -1, To: math.MinInt}}, "\x02\x00"+pack.PutEdit(api.Edit{Op: op, ID: -1, To: math.MinInt}))
	}
	for _, op := range wild {
		if op < 1 || op > 9 {
			wrong(t, api.Command{Op: api.CmdStage, Session: 15, Edit: edit(op)}, api.ErrKind)
			// The session comes first.
			wrong(t, api.Command{Op: api.CmdStage, Session: 16, Edit: edit(op)}, api.ErrSession)
			fails(t, "\x02\x05"+string(octets.PutVar(nil, op)), api.ErrKind)
			fails(t, "\x02\x05"+string(octets.PutVar(nil, op))+"more", api.ErrKind)
		}
	}
	fails(t, "\x02\x05", api.ErrShort)
	fails(t, "\x02\x05\x80", api.ErrShort)
	fails(t, "\x02\x05\x80\x00", api.ErrForm)
	nan := pack.PutEdit(api.Edit{Op: api.AddClass, Class: api.Class{Share: math.NaN()}})
	i := strings.Index(nan, "\x7f\xf8")
	fails(t, "\x02\x05"+nan[:i]+"\x7f\xf9"+nan[i+2:], api.ErrFloat)
	if c, e := wire.Decode("\x02\x05" + nan); e != api.OK || !math.IsNaN(c.Edit.Class.Share) {
		t.Errorf("a share that is no number: %v, %v", c, e)
	}
	for op := api.AddClass; op <= api.Move; op++ {
		s := "\x02\x05" + pack.PutEdit(edit(op))
		for n := 2; n < len(s); n++ {
			fails(t, s[:n], api.ErrShort)
		}
		fails(t, s+"\x00", api.ErrLong)
		fails(t, s+"\xff\xff", api.ErrLong)
	}
}

func TestStat(t *testing.T) { // P38.1, P38.2
	for _, n := range wild {
		s := "\x07" + string(octets.PutVar(nil, n))
		encodes(t, api.Command{Op: api.CmdStat, ID: n}, s)
		for i := 1; i < len(s); i++ {
			fails(t, s[:i], api.ErrShort)
		}
		fails(t, s+"\x00", api.ErrLong)
		fails(t, s+s, api.ErrLong)
	}
	fails(t, "\x07\x80\x00", api.ErrForm)
	fails(t, "\x07\x80\x00\x00", api.ErrForm)
	fails(t, "\x07"+strings.Repeat("\x80", 9), api.ErrShort)
	fails(t, "\x07"+strings.Repeat("\x80", 10), api.ErrForm)
	fails(t, "\x07"+strings.Repeat("\xff", 9)+"\x02", api.ErrForm)
}

func TestDecodeErrors(t *testing.T) { // P38.2
	fails(t, "", api.ErrShort)
	for op := range 256 {
		s := string([]byte{byte(op)})
		switch {
		case op < 1 || op > 8:
			fails(t, s, api.ErrKind)
			fails(t, s+"\x10", api.ErrKind)
			fails(t, s+"\x00\x00", api.ErrKind)
		case op == api.CmdOpen || op == api.CmdCommit || op == api.CmdAbort:
			fails(t, s+"\x0f\x00", api.ErrLong)
			fails(t, s+"\x00\x0f\x00", api.ErrLong)
			fails(t, s+"\x10\x00", api.ErrSession)
		case op == api.CmdRollback || op == api.CmdVersion || op == api.CmdShow:
			fails(t, s+"\x00", api.ErrLong)
			fails(t, s+s, api.ErrLong)
			fails(t, s+"\x10\xff\xff", api.ErrLong)
		}
	}
}

func TestChanges(t *testing.T) { // P38.2
	for _, op := range wild {
		if got := wire.Changes(command(op)); got != (op == 3 || op == 5) {
			t.Errorf("Changes of Op %d = %v", op, got)
		}
		// Whether the command is right does not matter.
		if !wire.Changes(api.Command{Op: api.CmdCommit, Session: op}) {
			t.Errorf("Changes of session %d", op)
		}
	}
}

// read is Decode, with every rule written out.
func read(s string) (api.Command, api.Errno) {
	none := api.Command{}
	if len(s) < 1 {
		return none, api.ErrShort
	}
	c := api.Command{Op: int(s[0])}
	if s[0] < 1 || s[0] > 8 {
		return none, api.ErrKind
	}
	s = s[1:]
	if c.Op <= 4 {
		if len(s) < 1 {
			return none, api.ErrShort
		}
		if s[0] > 15 {
			return none, api.ErrSession
		}
		c.Session = int(s[0])
		s = s[1:]
	}
	if c.Op == 2 {
		edit, e := pack.GetEdit(s)
		if e != api.OK {
			return none, e
		}
		c.Edit = edit
		return c, api.OK
	}
	if c.Op == 7 {
		e := octets.Try(s, func(r *octets.Reader) {
			c.ID = r.Var()
			s = r.Take(r.Left())
		})
		if e != api.OK {
			return none, e
		}
	}
	if s != "" {
		return none, api.ErrLong
	}
	return c, api.OK
}

// agrees compares both implementations, and Encode with what they say.
func agrees(t *testing.T, s string) api.Errno {
	t.Helper()
	want, e := read(s)
	got, f := wire.Decode(s)
	if got != want && got.Edit.Class.Share == got.Edit.Class.Share || e != f {
		t.Fatalf("Decode(%q) = %+v, %v, not %+v, %v", s, got, f, want, e)
	}
	if f == api.OK {
		if back, e := wire.Encode(got); back != s || e != api.OK {
			t.Fatalf("Encode(%+v) = %q, %v, not %q", got, back, e, s)
		}
	}
	return f
}

func TestAllShort(t *testing.T) { // P38.2, P38.3
	agrees(t, "")
	fine := 0
	for a := range 256 {
		agrees(t, string([]byte{byte(a)}))
		for b := range 256 {
			if agrees(t, string([]byte{byte(a), byte(b)})) == api.OK {
				fine++
			}
			if a <= 9 && b <= 16 || a == 7 {
				for c := range 256 {
					agrees(t, string([]byte{byte(a), byte(b), byte(c)}))
				}
			}
		}
	}
	if fine != 3*16+128 {
		t.Error(fine, "commands of two bytes")
	}
}

// random returns a command that is right, or nearly.
func random(r *rand.Rand) api.Command {
	number := func() int { return wild[r.Intn(len(wild))] }
	c := api.Command{Op: r.Intn(10), Session: r.Intn(17), ID: number()}
	c.Edit = api.Edit{Op: r.Intn(11), ID: number(), To: number()}
	c.Edit.Class = api.Class{ID: number(), Parent: number(), Share: r.NormFloat64(), Prio: number(), Quantum: number(), Limit: number(), Weight: number(), MinIdle: number(), MaxIdle: number(), Bounded: r.Intn(2) == 0, Isolated: r.Intn(2) == 0}
	c.Edit.Filter = api.Filter{ID: number(), Prio: number(), Version: number(), Src: api.Addr{Hi: r.Uint64(), Lo: r.Uint64()}, Dst: api.Addr{Hi: r.Uint64(), Lo: r.Uint64()}, SrcLen: number(), DstLen: number(), Proto: number(), SrcPorts: api.Span{Low: number(), High: number()}, DstPorts: api.Span{Low: number(), High: number()}, Leaf: number()}
	return c
}

func TestRoundTrip(t *testing.T) { // P38.1, P38.3
	r := rand.New(rand.NewSource(38))
	fine := 0
	for range 5000 {
		c := random(r)
		s, e := wire.Encode(c)
		want := api.OK
		switch {
		case c.Op < 1 || c.Op > 8:
			want = api.ErrKind
		case c.Op <= 4 && c.Session == 16:
			want = api.ErrSession
		case c.Op == 2 && (c.Edit.Op < 1 || c.Edit.Op > 9):
			want = api.ErrKind
		}
		if e != want || wire.Right(c) != want || (s == "") != (want != api.OK) {
			t.Fatalf("Encode(%+v) = %q, %v, not %v", c, s, e, want)
		}
		if e != api.OK {
			continue
		}
		fine++
		if got, e := wire.Decode(s); got != used(c) || e != api.OK {
			t.Fatalf("Decode(%q) = %+v, %v, not %+v", s, got, e, used(c))
		}
		// What is nearly an encoding.
		b := []byte(s)
		b[r.Intn(len(b))] ^= 1 << r.Intn(8)
		agrees(t, string(b))
		agrees(t, s[:r.Intn(len(s))])
		agrees(t, s+string([]byte{byte(r.Intn(256))}))
	}
	if fine < 1000 {
		t.Error("only", fine, "commands are right")
	}
}

func TestAnything(t *testing.T) { // P6
	for _, a := range wild {
		for _, b := range wild {
			c := api.Command{Op: a, Session: b, ID: a, Edit: api.Edit{Op: b, ID: a, To: b, Class: api.Class{ID: a, Share: math.Inf(1)}}}
			wire.Right(c)
			wire.Encode(c)
			wire.Changes(c)
			c.Op, c.Session = api.CmdStage, 3
			wire.Encode(c)
		}
	}
	r := rand.New(rand.NewSource(6))
	for range 3000 {
		b := make([]byte, r.Intn(90))
		r.Read(b)
		agrees(t, string(b))
		agrees(t, string([]byte{2, byte(r.Intn(16)), byte(2 * r.Intn(11))})+string(b))
	}
	agrees(t, strings.Repeat("\x02", 1<<20))
	agrees(t, strings.Repeat("\xff", 1<<20))
}
