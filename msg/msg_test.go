package msg

import (
	"fmt"
	"math"
	"slices"
	"strings"
	"testing"
	"unsafe"

	"ostiary/api"
	"ostiary/rec"
	"ostiary/sample"
	"ostiary/wire"
)

var (
	named, sized, filler = sample.Named, sample.Sized, sample.Filler
	word, heading, plain = sample.Word, sample.Heading, sample.Plain
	recs, same, none     = sample.Lists, sample.Same, sample.None
	roomy, clone         = sample.Roomy, sample.Clone
)

// asked is the question of the chapter's examples.
func asked() api.Message {
	return api.Message{ID: 7, Flags: api.FlagRD, Q: []api.Question{question(named("a"))}}
}

// question tells a question whose name alone matters.
func question(n string) api.Question { return api.Question{Name: n, Type: 1, Class: 1} }

// record tells a record whose name and data alone matter.
func record(n string, t int, data string) api.Rec {
	return api.Rec{Name: n, Type: t, Class: 1, TTL: 5, Data: data}
}

// listed tells a message of which one list, of the four, has so many entries that may be.
func listed(list, n int) api.Message {
	var m api.Message
	if list == 0 {
		m.Q = slices.Repeat([]api.Question{question("\x00")}, n)
	} else {
		*recs(&m)[list-1] = slices.Repeat([]api.Rec{record("\x00", 999, "")}, n)
	}
	return m
}

// short tells a message in few words, for what a test says.
func short(m api.Message) string {
	return fmt.Sprintf("%d %d, %d questions %.200v, %d, %d, %d records %.200v %.200v %.200v", m.ID, m.Flags, len(m.Q), m.Q, len(m.An), len(m.Ns), len(m.Ar), m.An, m.Ns, m.Ar)
}

// checked tells what Check is to tell: all errors in their order, of which the first one counts.
func checked(m api.Message) api.Errno {
	var l []api.Errno
	if m.ID != m.ID&65535 || m.Flags != m.Flags&65535 {
		l = append(l, api.ErrRange)
	}
	if max(len(m.Q), len(m.An), len(m.Ns), len(m.Ar)) >= 65536 {
		l = append(l, api.ErrLong)
	}
	for _, q := range m.Q {
		_, e := rec.Ask(wire.New(), 0, q)
		l = append(l, e)
	}
	for _, x := range slices.Concat(m.An, m.Ns, m.Ar) {
		l = append(l, rec.Check(x))
	}
	for _, e := range l {
		if e != api.OK {
			return e
		}
	}
	return api.OK
}

// checks holds what Check tells against what it is to tell; what was handed in has to stay as it was.
func checks(t *testing.T, m api.Message, want api.Errno) {
	t.Helper()
	m, all := roomy(m)
	was := clone(all)
	if e := Check(m); e != want {
		t.Fatalf("Check(%s) = %v, not %v", short(m), e, want)
	}
	if !same(all, was) {
		t.Fatalf("Check(%s) changed it", short(m))
	}
}

// outside tells numbers that two bytes do not tell.
func outside() []int {
	return []int{math.MinInt, math.MinInt + 5, -1 << 32, -65536, -65535, -2, -1, 65536, 65537, 1 << 17, 1 << 31, 1<<32 - 1, 1 << 32, 1<<32 + 5, math.MaxInt}
}

// inside tells numbers that they do.
func inside() []int { return []int{0, 1, 2, 255, 256, 258, 32767, 32768, 65279, 65534, 65535} }

// P8.1: messages that may be.
func TestCheckGood(t *testing.T) {
	checks(t, api.Message{}, api.OK)
	checks(t, asked(), api.OK)
	checks(t, answered(), api.OK)
	s := sample.New()
	for range 500 {
		checks(t, s.Message(), api.OK)
	}
}

// P8.1: the bounds of ID and Flags, each by itself.
func TestCheckNumbers(t *testing.T) {
	for _, n := range inside() {
		checks(t, api.Message{ID: n}, api.OK)
		checks(t, api.Message{Flags: n}, api.OK)
		checks(t, api.Message{ID: n, Flags: 65535 - n}, api.OK)
	}
	for _, n := range outside() {
		checks(t, api.Message{ID: n}, api.ErrRange)
		checks(t, api.Message{Flags: n}, api.ErrRange)
		checks(t, api.Message{ID: n, Flags: n}, api.ErrRange)
	}
}

// P8.1: how many entries each list has at most.
func TestCheckLists(t *testing.T) {
	for list := range 4 {
		for n, want := range map[int]api.Errno{1: api.OK, 65534: api.OK, 65535: api.OK, 65536: api.ErrLong, 65537: api.ErrLong, 131072: api.ErrLong, 131073: api.ErrLong} {
			checks(t, listed(list, n), want)
		}
	}
	// All of them together may have more.
	m := listed(0, 65535)
	m.An, m.Ns, m.Ar = listed(1, 65535).An, listed(2, 65535).Ns, listed(3, 65535).Ar
	checks(t, m, api.OK)
	m.Ar = listed(3, 65536).Ar
	checks(t, m, api.ErrLong)
}

// P8.1: of questions the name, then type and class.
func TestCheckQuestions(t *testing.T) {
	for n, want := range map[string]api.Errno{"\x00": api.OK, named("a", "B"): api.OK, sized(255): api.OK, "": api.ErrBytes, "a": api.ErrBytes, "\x01a": api.ErrBytes, "\x00\x00": api.ErrBytes, "\xc0\x0c": api.ErrBytes, "\x40" + filler(64) + "\x00": api.ErrBytes, sized(256): api.ErrLong, sized(300): api.ErrLong} {
		checks(t, api.Message{Q: []api.Question{question(n)}}, want)
		if want == api.OK {
			want = api.ErrRange
		}
		checks(t, api.Message{Q: []api.Question{{Name: n, Type: -1, Class: 1}}}, want)
		checks(t, api.Message{Q: []api.Question{{Name: n, Type: 1, Class: 65536}}}, want)
	}
	for _, n := range inside() {
		checks(t, api.Message{Q: []api.Question{{Name: "\x00", Type: n, Class: 1}, {Name: "\x00", Type: 1, Class: n}}}, api.OK)
	}
	for _, n := range outside() {
		checks(t, api.Message{Q: []api.Question{{Name: "\x00", Type: n, Class: 1}}}, api.ErrRange)
		checks(t, api.Message{Q: []api.Question{{Name: "\x00", Type: 1, Class: n}}}, api.ErrRange)
	}
}

// badRecords tells records that may not be, and why.
func badRecords() map[api.Rec]api.Errno {
	return map[api.Rec]api.Errno{
		{}: api.ErrBytes, record("\x01a", 1, "abcd"): api.ErrBytes, record(sized(256), 1, "abcd"): api.ErrLong, record("\x00", -1, ""): api.ErrRange, record("\x00", 65536, ""): api.ErrRange,
		{Name: "\x00", Type: 999, Class: -1}: api.ErrRange, {Name: "\x00", Type: 999, Class: 65536}: api.ErrRange, {Name: "\x00", Type: 999, TTL: -1}: api.ErrRange, {Name: "\x00", Type: 999, TTL: 1 << 31}: api.ErrRange,
		record("\x00", 1, "abc"): api.ErrBytes, record("\x00", 2, "\xc0\x0c"): api.ErrBytes, record("\x00", 16, ""): api.ErrBytes, record("\x00", 999, filler(65536)): api.ErrLong,
	}
}

// P8.1: one entry that may not be, wherever it stands among others that may.
func TestCheckEntries(t *testing.T) {
	for place := range 3 {
		for x, want := range badRecords() {
			for list := range 3 {
				m := answered()
				l := recs(&m)[list]
				*l = slices.Insert(slices.Repeat([]api.Rec{record("\x00", 1, "abcd")}, 2), place, x)
				checks(t, m, want)
			}
		}
		for q, want := range map[api.Question]api.Errno{{}: api.ErrBytes, question(sized(256)): api.ErrLong, {Name: "\x00", Type: -1}: api.ErrRange, {Name: "\x00", Class: 65536}: api.ErrRange} {
			m := answered()
			m.Q = slices.Insert(slices.Repeat([]api.Question{question("\x00")}, 2), place, q)
			checks(t, m, want)
		}
	}
	// The last one of as many as there may be.
	for list := range 4 {
		m := listed(list, 65535)
		if list == 0 {
			m.Q[65534].Type = -1
		} else {
			(*recs(&m)[list-1])[65534].Type = -1
		}
		checks(t, m, api.ErrRange)
	}
}

// several tells messages in which several things, or none, are wrong.
func several(each func(m api.Message)) {
	var long [4]api.Message
	for i := range long {
		long[i] = listed(i, 65536)
	}
	good := record("\x00", 1, "abcd")
	lists := [][]api.Rec{nil, {good}, {good, {}}, {record(sized(256), 1, ""), {}}, {record("\x00", -1, ""), record(sized(256), 1, "")}}
	asks := [][]api.Question{nil, {question("\x00")}, {question("\x00"), {Type: -1}}, {question(sized(256)), {}}, {{Name: "\x00", Class: -1}, question(sized(256))}}
	for _, id := range []int{0, 65535, -1, 65536} {
		for _, flags := range []int{0, 65535, -1, 65536} {
			for tooMany := range 5 {
				for _, q := range asks {
					for i := range len(lists) * len(lists) * len(lists) {
						n := len(lists)
						m := api.Message{ID: id, Flags: flags, Q: q, An: lists[i/n/n], Ns: lists[i/n%n], Ar: lists[i%n]}
						switch tooMany {
						case 0:
							m.Q = long[0].Q
						case 1:
							m.An = long[1].An
						case 2:
							m.Ns = long[2].Ns
						case 3:
							m.Ar = long[3].Ar
						}
						each(m)
					}
				}
			}
		}
	}
}

// P8.1, rule 1: the first of several errors is told: that of ID and Flags, of how many entries any list has, of the questions one by one, of the lists one by one.
func TestCheckOrder(t *testing.T) {
	several(func(m api.Message) {
		want := api.ErrRange
		switch {
		case m.ID < 0 || m.ID > 65535 || m.Flags < 0 || m.Flags > 65535:
		case len(m.Q) > 65535 || len(m.An) > 65535 || len(m.Ns) > 65535 || len(m.Ar) > 65535:
			want = api.ErrLong
		default:
			want = checked(m)
		}
		if e := Check(m); e != want {
			t.Fatalf("Check(%s) = %v, not %v", short(m), e, want)
		}
	})
	bytes, long, number := record("a", 1, ""), record(sized(256), 1, ""), record("\x00", -1, "")
	for _, c := range []struct {
		m api.Message
		e api.Errno
	}{
		{api.Message{ID: -1, Q: make([]api.Question, 65536)}, api.ErrRange}, {api.Message{Flags: -1, Ar: make([]api.Rec, 65536)}, api.ErrRange}, {api.Message{Flags: 65536, Q: []api.Question{{}}}, api.ErrRange},
		{api.Message{Q: []api.Question{{}}, Ar: make([]api.Rec, 65536)}, api.ErrLong}, {api.Message{Q: make([]api.Question, 65536)}, api.ErrLong}, {api.Message{An: []api.Rec{{}}, Ns: make([]api.Rec, 65536)}, api.ErrLong}, {api.Message{Q: make([]api.Question, 65535)}, api.ErrBytes},
		{api.Message{Q: []api.Question{question(sized(256)), {}, {Name: "\x00", Type: -1}}}, api.ErrLong}, {api.Message{Q: []api.Question{{Name: "\x00", Type: -1}, question(sized(256))}, An: []api.Rec{bytes}}, api.ErrRange}, {api.Message{Q: []api.Question{{Type: -1}}, An: []api.Rec{number}}, api.ErrBytes}, {api.Message{Q: []api.Question{{Name: sized(256), Type: -1}}, An: []api.Rec{number}}, api.ErrLong},
		{api.Message{An: []api.Rec{long, bytes}, Ns: []api.Rec{number}, Ar: []api.Rec{bytes}}, api.ErrLong}, {api.Message{An: []api.Rec{number, bytes}, Ns: []api.Rec{long}}, api.ErrRange}, {api.Message{Ns: []api.Rec{long, number}, Ar: []api.Rec{bytes}}, api.ErrLong}, {api.Message{Ns: []api.Rec{record("\x00", 1, "abcd"), number}, Ar: []api.Rec{bytes}}, api.ErrRange}, {api.Message{Ar: []api.Rec{number, long, bytes}}, api.ErrRange},
	} {
		checks(t, c.m, c.e)
	}
}

// P8.3: fewer than twelve bytes, twelve, and more, whatever they are.
func TestHead(t *testing.T) {
	for n := range 12 {
		for _, b := range sample.Rooms(strings.Repeat("\x01", n)) {
			if id, flags, is := Head(b); id != 0 || flags != 0 || is {
				t.Errorf("Head of %d bytes = %d, %d, %v", n, id, flags, is)
			}
		}
	}
	if id, flags, is := Head(nil); id != 0 || flags != 0 || is {
		t.Errorf("Head of none = %d, %d, %v", id, flags, is)
	}
	for _, n := range []int{12, 13, 19, 300, 65535, 65536, 70000} {
		for _, rest := range []string{"\x00", "\x01", "\xff", "a"} {
			b := []byte("\x01\x02\x03\x04" + strings.Repeat(rest, n-4))
			was := string(b)
			if id, flags, is := Head(b); id != 258 || flags != 772 || !is || string(b) != was {
				t.Errorf("Head of %d bytes = %d, %d, %v", n, id, flags, is)
			}
		}
	}
	for n := range 65536 {
		if id, flags, is := Head([]byte(word(n, 2) + word(65535-n, 2) + "\x00\x00\x00\x00\x00\x00\x00\x00")); id != n || flags != 65535-n || !is {
			t.Fatalf("Head of %d = %d, %d, %v", n, id, flags, is)
		}
	}
}

// modulo tells how much of any number its lowest bits are, as far as below a power of two.
func modulo(n, power int) int { return (n%power + power) % power }

// P8.3: opcodes and codes of any number, and numbers with another code.
func TestFlags(t *testing.T) {
	all := outside()
	for n := -70000; n < 140000; n++ {
		all = append(all, n)
	}
	for _, n := range all {
		low := modulo(n, 65536)
		if Op(n) != low/2048%16 || Code(n) != low%16 {
			t.Fatalf("Op(%d) = %d, Code %d", n, Op(n), Code(n))
		}
		for _, code := range []int{0, 1, 5, 15, 16, 18, -1, modulo(n, 21) - 3, 65536, 1 << 40, math.MinInt, math.MaxInt} {
			if got := WithCode(n, code); got != low/16*16+modulo(code, 16) {
				t.Fatalf("WithCode(%d, %d) = %d", n, code, got)
			}
		}
	}
	for code := -70; code < 140; code++ {
		for _, n := range append(outside(), inside()...) {
			if got := WithCode(n, code); got != modulo(n, 65536)/16*16+modulo(code, 16) {
				t.Fatalf("WithCode(%d, %d) = %d", n, code, got)
			}
		}
	}
	if Op(10240) != 5 || Code(33155) != 3 || WithCode(33155, 18) != 33154 {
		t.Error(Op(10240), Code(33155), WithCode(33155, 18))
	}
}

// replied tells the flags of an answer, bit by bit.
func replied(flags, code int) int {
	n := 0
	for bit := range 16 {
		from := 0
		switch bit {
		case 15, 7:
			from = 1 << bit
		case 14, 13, 12, 11, 8, 4:
			from = flags
		case 3, 2, 1, 0:
			from = code
		}
		if from>>bit%2 != 0 {
			n += 1 << bit
		}
	}
	return n
}

// P8.3: the flags of an answer, of any flags and any code.
func TestReplyFlags(t *testing.T) {
	for flags := range 65536 {
		for _, code := range []int{0, 3, 15, 16, flags % 37} {
			if r := Reply(api.Message{Flags: flags}, code); r.Flags != replied(flags, code) {
				t.Fatalf("flags %d, code %d: %d, not %d", flags, code, r.Flags, replied(flags, code))
			}
		}
	}
	for _, flags := range append(outside(), inside()...) {
		for _, code := range append(outside(), -70, -16, -15, 16, 17, 18, 31, 65535+16) {
			if r := Reply(api.Message{Flags: flags}, code); r.Flags != replied(flags, code) {
				t.Fatalf("flags %d, code %d: %d, not %d", flags, code, r.Flags, replied(flags, code))
			}
		}
	}
	for flags, want := range map[int]int{0: 32896, 65535: 63888, api.FlagQR: 32896, api.FlagAA: 32896, api.FlagTC: 32896, api.FlagRD: 33152, api.FlagRA: 32896, 64: 32896, 32: 32896, 16: 32912, 15: 32896, 5 << api.OpShift: 43136} {
		if r := Reply(api.Message{Flags: flags}, 0); r.Flags != want {
			t.Errorf("flags %d: %d, not %d", flags, r.Flags, want)
		}
	}
}

// P8.3: an answer has the ID and the questions, whatever they are, and no records.
func TestReply(t *testing.T) {
	r := Reply(asked(), 3)
	if !same(r, api.Message{ID: 7, Flags: 33155, Q: asked().Q}) {
		t.Error(short(r))
	}
	s := sample.New()
	for i := range 300 {
		m, all := roomy(s.Message())
		was := clone(all)
		r := Reply(m, i)
		if !same(r, api.Message{ID: m.ID, Flags: replied(m.Flags, i), Q: m.Q}) || Check(r) != api.OK {
			t.Fatalf("Reply(%s, %d) = %s", short(m), i, short(r))
		}
		if !same(all, was) {
			t.Fatalf("Reply(%s) changed it", short(m))
		}
	}
	for _, id := range append(outside(), inside()...) {
		m := api.Message{ID: id, Q: []api.Question{question("\x00"), {}, {Name: "no name", Type: id, Class: -id}, question(sized(300))}, An: []api.Rec{{}}, Ns: []api.Rec{{}}, Ar: []api.Rec{{}}}
		if r := Reply(m, 0); !same(r, api.Message{ID: id, Flags: 32896, Q: m.Q}) {
			t.Errorf("Reply(%s) = %s", short(m), short(r))
		}
	}
	m := listed(0, 65536)
	if r := Reply(m, 0); !slices.Equal(r.Q, m.Q) {
		t.Errorf("%d questions", len(r.Q))
	}
}

// P8.3, rule 4: an answer's questions are its own, their names too.
func TestReplyIsNew(t *testing.T) {
	for n := range 9 {
		m, all := roomy(api.Message{Q: slices.Repeat([]api.Question{question(named("a"))}, n)})
		was := clone(all)
		r := Reply(m, 0)
		for i := range r.Q[:cap(r.Q)] {
			r.Q[:cap(r.Q)][i] = question(named("z"))
		}
		if !same(all, was) {
			t.Errorf("writing on the answer changed %s", short(all))
		}
	}
	b := []byte(named("a"))
	m := api.Message{Q: []api.Question{{Name: unsafe.String(&b[0], len(b))}}}
	r := Reply(m, 0)
	m.Q[0].Type = 9
	copy(b, named("z"))
	if len(r.Q) != 1 || r.Q[0] != (api.Question{Name: named("a")}) {
		t.Error(short(r))
	}
}
