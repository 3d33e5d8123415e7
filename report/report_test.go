package report_test

import (
	"encoding/hex"
	"fmt"
	"math"
	"math/big"
	"math/rand"
	"regexp"
	"strconv"
	"strings"
	"testing"

	"flashlock/api"
	"flashlock/report"
)

var wild = []int{math.MinInt, math.MinInt + 1, -1 << 60, -100, -10, -9, -1, 0, 1, 2, 3, 4, 5, 6, 9, 10, 99, 100, 65535, 1 << 60, math.MaxInt - 1, math.MaxInt}

func TestExample(t *testing.T) { // P52.2
	if got := report.Line(api.Out{Kind: api.EvTick, Now: 7}); got != "time 7" {
		t.Error(got)
	}
}

func TestHex(t *testing.T) { // P52.1
	for s, want := range map[string]string{
		"": "-", "\x00": "00", "-": "2d", "\x09\x0a\x0f\x10": "090a0f10", "\xff\xfe\x80\x7f": "fffe807f",
		"time": "74696d65", "\xc3\xa4\u20ac": "c3a4e282ac", "\xde\xad\xbe\xef": "deadbeef",
	} {
		if got := report.Hex(s); got != want {
			t.Errorf("Hex(%q) = %q, not %q", s, got, want)
		}
		if got, ok := report.Unhex(want); got != s || !ok {
			t.Errorf("Unhex(%q) = %q, %v, not %q", want, got, ok, s)
		}
	}
	for b := range 256 {
		s := string([]byte{byte(b)})
		for _, s := range []string{s, s + "\x5a", "\xa5" + s, s + s + s} {
			want := hex.EncodeToString([]byte(s))
			if got := report.Hex(s); got != want {
				t.Errorf("Hex(%q) = %q, not %q", s, got, want)
			}
			if got, ok := report.Unhex(want); got != s || !ok {
				t.Errorf("Unhex(%q) = %q, %v, not %q", want, got, ok, s)
			}
		}
	}
}

func noHex(t *testing.T, s string) {
	t.Helper()
	if got, ok := report.Unhex(s); got != "" || ok {
		t.Errorf("Unhex(%q) = %q, %v", s, got, ok)
	}
}

func TestUnhexNone(t *testing.T) { // P52.1
	for _, s := range []string{
		"", "0", "a", "012", "abcde", "--", "---", "-0", "0-", "-00", "00-", "- ", " -", " ", "  ", "00 ", " 00", "0 0", "00 11", "00\n", "00\x00",
		"A0", "0A", "FF", "aB", "0x41", "0X", "g0", "0g", "zz", ":0", "/0", "0`", "@0", "é", "éé", "٣٣", "0٣0", "０１", "\xff", "\xff\xff", "0\xff", "a\u0301", "\ufffd0", "00\ufffd0",
	} {
		noHex(t, s)
	}
	for a := range 256 {
		for b := range 256 {
			s := string([]byte{byte(a), byte(b)})
			want, err := hex.DecodeString(s)
			if err != nil || s != strings.ToLower(s) {
				noHex(t, s)
				noHex(t, s+"00")
				noHex(t, "ff"+s)
			} else if got, ok := report.Unhex(s + "7e" + s); got != string(want)+"~"+string(want) || !ok {
				t.Errorf("Unhex(%q) = %q, %v", s, got, ok)
			}
		}
	}
}

func noNumber(t *testing.T, s string) {
	t.Helper()
	if got, ok := report.Number(s); got != 0 || ok {
		t.Errorf("Number(%q) = %d, %v", s, got, ok)
	}
}

// value returns the number that s represents, by way of numbers without bounds.
func value(s string) (int, bool) {
	n, ok := new(big.Int).SetString(s, 10)
	if !ok || n.String() != s || !n.IsInt64() {
		return 0, false
	}
	return int(n.Int64()), true
}

func TestNumber(t *testing.T) { // P52.1
	for s, want := range map[string]int{
		"0": 0, "1": 1, "9": 9, "10": 10, "-1": -1, "-9": -9, "-10": -10, "1234567890": 1234567890, "65535": 65535,
		"9223372036854775807": math.MaxInt64, "9223372036854775806": math.MaxInt64 - 1,
		"-9223372036854775808": math.MinInt64, "-9223372036854775807": math.MinInt64 + 1,
	} {
		if got, ok := report.Number(s); got != want || !ok {
			t.Errorf("Number(%q) = %d, %v, not %d", s, got, ok, want)
		}
	}
	for _, s := range []string{
		"", "-", "+", "--", "-0", "+0", "00", "-00", "01", "-01", "007", "+1", "--1", "-+1", "1-", "1+", " 1", "1 ", "- 1", "1\n", "\t1", "1\x00", " ", "1 2",
		"9223372036854775808", "-9223372036854775809", "9223372036854775810", "18446744073709551615", "18446744073709551616", "18446744073709551617", "99999999999999999999", "-99999999999999999999",
		"1_000", "1,000", "1.0", "1e3", "0x1", "0b1", "0o7", "a", "1a", "a1", "/", ":", "٣", "１", "−1", "\xff", "1\xff", "\ufffd", "NaN", "true",
		strings.Repeat("9", 5000), "-" + strings.Repeat("1", 5000), strings.Repeat("0", 5000), strings.Repeat("0", 30) + "1",
	} {
		noNumber(t, s)
	}
	for _, n := range wild {
		if got, ok := report.Number(strconv.Itoa(n)); got != n || !ok {
			t.Errorf("Number(%d) = %d, %v", n, got, ok)
		}
	}
}

func TestNumberSecondImplementation(t *testing.T) { // P52.1
	r := rand.New(rand.NewSource(521))
	fine := 0
	for range 30000 {
		b := []byte(strconv.Itoa(wild[r.Intn(len(wild))] + r.Intn(9) - 4))
		for range r.Intn(3) {
			b[r.Intn(len(b))] = "0123456789-+ "[r.Intn(13)]
		}
		s := string(b)
		got, ok := report.Number(s)
		if want, is := value(s); got != want || ok != is {
			t.Fatalf("Number(%q) = %d, %v, not %d, %v", s, got, ok, want, is)
		}
		if ok {
			fine++
		}
	}
	if fine < 1000 || fine > 29000 {
		t.Error(fine, "numbers")
	}
}

// full is a result all of whose fields differ.
var full = api.Out{Seq: 101, Leaf: 102, Lender: 103, Reason: 104, Now: 105, Wake: 106, Reply: "\x01\xab"}

func of(kind int) api.Out {
	o := full
	o.Kind = kind
	return o
}

// printed returns o with nothing but the fields that its Line prints.
func printed(o api.Out) api.Out {
	switch o.Kind {
	case api.EvPacket:
		return api.Out{Kind: 1, Seq: o.Seq, Leaf: o.Leaf, Reason: o.Reason, Now: o.Now}
	case api.EvReady:
		return api.Out{Kind: 2, Seq: o.Seq, Leaf: o.Leaf, Lender: o.Lender, Wake: o.Wake, Now: o.Now}
	case api.EvTick:
		return api.Out{Kind: 3, Now: o.Now}
	case api.EvControl:
		return api.Out{Kind: 4, Reply: o.Reply, Now: o.Now}
	}
	return api.Out{Kind: o.Kind}
}

func hasLine(t *testing.T, o api.Out, want string) {
	t.Helper()
	if got := report.Line(o); got != want {
		t.Errorf("Line(%+v) = %q, not %q", o, got, want)
	}
	if got, ok := report.Read(want); got != printed(o) || !ok {
		t.Errorf("Read(%q) = %+v, %v, not %+v", want, got, ok, printed(o))
	}
}

func noLine(t *testing.T, line string) {
	t.Helper()
	if got, ok := report.Read(line); got != (api.Out{}) || ok {
		t.Errorf("Read(%q) = %+v, %v", line, got, ok)
	}
}

func TestLine(t *testing.T) { // P52.2, P52.3: each Kind, whatever fields it does not print
	hasLine(t, of(api.EvPacket), "packet 101 leaf 102 lost 104 at 105")
	hasLine(t, of(api.EvReady), "sent 101 leaf 102 by 103 wake 106 at 105")
	hasLine(t, of(api.EvTick), "time 105")
	hasLine(t, of(api.EvControl), "reply 01ab at 105")
	hasLine(t, api.Out{Kind: api.EvPacket}, "packet 0 leaf 0 lost 0 at 0")
	hasLine(t, api.Out{Kind: api.EvReady}, "sent 0 leaf 0 by 0 wake 0 at 0")
	hasLine(t, api.Out{Kind: api.EvTick}, "time 0")
	hasLine(t, api.Out{Kind: api.EvControl}, "reply - at 0")
	hasLine(t, api.Out{Kind: api.EvControl, Reply: "-", Now: -1}, "reply 2d at -1")
	hasLine(t, api.Out{Kind: api.EvPacket, Seq: -1, Leaf: -2, Reason: -3, Now: -4}, "packet -1 leaf -2 lost -3 at -4")
	hasLine(t, api.Out{Kind: api.EvReady, Seq: math.MinInt, Leaf: math.MaxInt, Lender: math.MinInt, Wake: math.MaxInt, Now: math.MinInt},
		"sent -9223372036854775808 leaf 9223372036854775807 by -9223372036854775808 wake 9223372036854775807 at -9223372036854775808")
	for _, n := range wild {
		want := "none " + strconv.Itoa(n)
		if n < api.EvPacket || n > api.EvControl {
			hasLine(t, of(n), want)
		} else {
			noLine(t, want)
		}
		hasLine(t, api.Out{Kind: api.EvTick, Now: n}, "time "+strconv.Itoa(n))
	}
}

func TestReadNone(t *testing.T) { // P52.2
	for _, line := range []string{
		"", " ", "none", "time", "packet", "sent", "reply", "none ", "time ", " 7", "7", "time 7 ", " time 7", "time  7", "time\t7", "time\n7", "time 7\n", "time\u00a07", "time 7 at 7", "time 7 7",
		"Time 7", "TIME 7", "times 7", "tim 7", "time 07", "time -0", "time +7", "time 7.0", "time x", "time -", "time 9223372036854775808", "time -9223372036854775809", "time 7time 8", "time time",
		"none 1", "none 2", "none 3", "none 4", "none 05", "none -0", "none +5", "none 5 at 3", "none x", "nothing 5", "none 9223372036854775808",
		"packet 1 leaf 2 lost 3 at", "packet 1 leaf 2 lost 3", "packet 1 leaf 2", "packet 1 leaf 2 lost 3 at 4 at 5", "packet 1 leaf 2 at 4 lost 3", "packet 1 lost 3 leaf 2 at 4", "leaf 2 packet 1 lost 3 at 4",
		"packet 1 leaf 2 lost  at 4", "packet 1 leaf 2 lost 3 at 4 ", "packet 1  leaf 2 lost 3 at 4", "packet 1 leaf 2 lost -0 at 4", "packet - leaf 2 lost 3 at 4", "packet 1 leaf 2 by 3 at 4", "sent 1 leaf 2 lost 3 at 4",
		"sent 1 leaf 2 by 3 at 5", "sent 1 leaf 2 by 3 wake 4 at", "sent 1 leaf 2 by 3 wake 4 at 5 6", "sent 1 leaf 2 wake 4 by 3 at 5", "packet 1 leaf 2 by 3 wake 4 at 5", "sent 1 leaf 2 by 03 wake 4 at 5",
		"reply at 5", "reply  at 5", "reply - at", "reply -", "reply -- at 5", "reply 0 at 5", "reply 0A at 5", "reply 0g at 5", "reply 00 00 at 5", "reply 00 at 05", "reply 00 at -", "Reply 00 at 5", "reply -00 at 5", "reply 00- at 5", "reply 00 at 5 ",
	} {
		noLine(t, line)
	}
}

const (
	number = "(0|-?[1-9][0-9]*)"
	bytes  = "(-|(?:[0-9a-f][0-9a-f])+)"
)

// patterns are those of the lines, by kind.
var patterns = func() (l []*regexp.Regexp) {
	for _, s := range []string{"none N", "packet N leaf N lost N at N", "sent N leaf N by N wake N at N", "time N", "reply H at N"} {
		s = strings.ReplaceAll(strings.ReplaceAll(s, "N", number), "H", bytes)
		l = append(l, regexp.MustCompile("^"+s+"$"))
	}
	return l
}()

// read is Read, by way of patterns.
func read(line string) (api.Out, bool) {
	none := api.Out{}
	for kind, pattern := range patterns {
		found := pattern.FindStringSubmatch(line)
		if found == nil {
			continue
		}
		var n [6]int
		for i, s := range found[1:] {
			if kind == api.EvControl && i == 0 {
				continue
			}
			var ok bool
			if n[i], ok = value(s); !ok {
				return none, false
			}
		}
		switch kind {
		case 0:
			return api.Out{Kind: n[0]}, n[0] < 1 || n[0] > 4
		case api.EvPacket:
			return api.Out{Kind: 1, Seq: n[0], Leaf: n[1], Reason: n[2], Now: n[3]}, true
		case api.EvReady:
			return api.Out{Kind: 2, Seq: n[0], Leaf: n[1], Lender: n[2], Wake: n[3], Now: n[4]}, true
		case api.EvTick:
			return api.Out{Kind: 3, Now: n[0]}, true
		}
		b, _ := hex.DecodeString(strings.Trim(found[1], "-"))
		return api.Out{Kind: 4, Reply: string(b), Now: n[1]}, true
	}
	return none, false
}

// agrees compares both implementations, and Line with what they say.
func agrees(t *testing.T, line string) bool {
	t.Helper()
	want, is := read(line)
	if !is {
		want = api.Out{}
	}
	got, ok := report.Read(line)
	if got != want || ok != is {
		t.Fatalf("Read(%q) = %+v, %v, not %+v, %v", line, got, ok, want, is)
	}
	if ok && (report.Line(got) != line || got != printed(got)) {
		t.Fatalf("Line(%+v) = %q, not %q", got, report.Line(got), line)
	}
	return ok
}

func TestNearLines(t *testing.T) { // P52.2, P52.3: lines with one letter more, less or otherwise
	lines := []string{report.Line(of(0)), report.Line(of(1)), report.Line(of(2)), report.Line(of(3)), report.Line(of(4)), "none -12", "reply - at 0", "packet 0 leaf 1 lost 5 at -10"}
	fine := 0
	for _, line := range lines {
		for i := range len(line) + 1 {
			agrees(t, line[:i])
			agrees(t, line[i:])
			for _, c := range " -+0159afAexN\n\xff" {
				more := agrees(t, line[:i]+string(c)+line[i:])
				if i < len(line) && agrees(t, line[:i]+string(c)+line[i+1:]) || more {
					fine++
				}
			}
			if i < len(line) {
				agrees(t, line[:i]+line[i+1:])
				agrees(t, line[:i]+strings.ToUpper(line[i:]))
			}
		}
		for _, other := range lines {
			agrees(t, line+other)
			agrees(t, line+" "+other)
			agrees(t, line+"\n"+other)
		}
	}
	if fine < 50 {
		t.Error("only", fine, "lines are some")
	}
}

func TestRoundTrip(t *testing.T) { // P52.2, P52.3
	r := rand.New(rand.NewSource(52))
	n := func() int { return wild[r.Intn(len(wild))] }
	for range 3000 {
		b := make([]byte, r.Intn(3)*r.Intn(30))
		r.Read(b)
		o := api.Out{Kind: r.Intn(8) - 1, Seq: n(), Leaf: n(), Lender: n(), Reason: n(), Now: n(), Wake: n(), Reply: string(b)}
		line := report.Line(o)
		if got, ok := report.Read(line); got != printed(o) || !ok {
			t.Fatalf("Read(%q) = %+v, %v, not %+v", line, got, ok, printed(o))
		}
		agrees(t, line)
		words := strings.Split(line, " ")
		i, j := r.Intn(len(words)), r.Intn(len(words))
		words[i], words[j] = words[j], words[i]
		agrees(t, strings.Join(words, " "))
		agrees(t, strings.Join(words[:i], " "))
		agrees(t, strings.Join(words, "  "))
		agrees(t, strings.Join(append(words, words[i]), " "))
	}
}

func TestStat(t *testing.T) { // P52.2
	for _, x := range []struct {
		stat api.Stat
		want string
	}{
		{api.Stat{}, "got 0 bytes 0 sent 0 bytes 0 lost 0 waiting 0"},
		{api.Stat{Got: 1, GotBytes: 2, Sent: 3, SentBytes: 4, Lost: 5, Waiting: 6}, "got 1 bytes 2 sent 3 bytes 4 lost 5 waiting 6"},
		{api.Stat{Got: -10, GotBytes: 200, Sent: -1, SentBytes: 1 << 60, Lost: math.MinInt, Waiting: math.MaxInt}, "got -10 bytes 200 sent -1 bytes 1152921504606846976 lost -9223372036854775808 waiting 9223372036854775807"},
	} {
		if got := report.Stat(x.stat); got != x.want {
			t.Errorf("Stat(%+v) = %q, not %q", x.stat, got, x.want)
		}
	}
	for i, n := range wild {
		m := wild[(i+7)%len(wild)]
		want := fmt.Sprintf("got %d bytes %d sent %d bytes %d lost %d waiting %d", n, m, m, n, n, m)
		if got := report.Stat(api.Stat{Got: n, GotBytes: m, Sent: m, SentBytes: n, Lost: n, Waiting: m}); got != want {
			t.Errorf("Stat = %q, not %q", got, want)
		}
	}
}

func TestAnything(t *testing.T) { // P6
	r := rand.New(rand.NewSource(6))
	for range 3000 {
		b := make([]byte, r.Intn(60))
		for i := range b {
			b[i] = " -0123456789abcdefgpacketleaflostatsentbywaketimereplynone\xff\x00"[r.Intn(60)]
		}
		s := string(b)
		if h, ok := report.Unhex(s); ok && report.Hex(h) != s {
			t.Fatalf("Unhex(%q)", s)
		}
		if n, ok := report.Number(s); ok && strconv.Itoa(n) != s {
			t.Fatalf("Number(%q)", s)
		}
		agrees(t, s)
		if h, ok := report.Unhex(report.Hex(s)); h != s || !ok {
			t.Fatalf("Hex(%q)", s)
		}
	}
	for _, n := range wild {
		agrees(t, report.Line(api.Out{Kind: n, Now: n, Reply: strings.Repeat("\xf0", 1<<15)}))
	}
	long := strings.Repeat("a ", 1<<18)
	agrees(t, long)
	noNumber(t, long)
	noHex(t, long)
}
