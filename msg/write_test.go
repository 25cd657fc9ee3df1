package msg

import (
	"fmt"
	"slices"
	"testing"
	"unsafe"

	"ostiary/api"
	"ostiary/rec"
	"ostiary/sample"
	"ostiary/wire"
)

// answered is an answer with records in each of its lists, whose names are told short.
func answered() api.Message {
	www, zone, ns := named("www", "Example"), named("Example"), named("ns", "Example")
	return api.Message{
		ID: 258, Flags: api.FlagQR | api.FlagAA | api.FlagRD,
		Q:  []api.Question{question(www)},
		An: []api.Rec{record(www, 5, named("w", "Example")), record(named("w", "Example"), 1, "abcd")},
		Ns: []api.Rec{record(zone, 2, ns)},
		Ar: []api.Rec{record(ns, 1, "efgh"), {Name: "\x00", Type: 41, Class: 1232}, record(zone, 15, "\x00\x05"+ns)},
	}
}

// answeredBytes is its bytes.
func answeredBytes() string {
	return "\x01\x02\x85\x00\x00\x01\x00\x02\x00\x01\x00\x03" +
		named("www", "Example") + "\x00\x01\x00\x01" + // www.Example. at 12, Example. at 16
		"\xc0\x0c" + heading(5, 1, 5, 4) + "\x01w\xc0\x10" + // w.Example. at 41
		"\xc0\x29" + heading(1, 1, 5, 4) + "abcd" +
		"\xc0\x10" + heading(2, 1, 5, 5) + "\x02ns\xc0\x10" + // ns.Example. at 73
		"\xc0\x49" + heading(1, 1, 5, 4) + "efgh" +
		"\x00" + heading(41, 1232, 0, 0) +
		"\xc0\x10" + heading(15, 1, 5, 4) + "\x00\x05\xc0\x49"
}

// headed tells the bytes that a message begins with.
func headed(m api.Message) string {
	b := ""
	for _, n := range []int{m.ID, m.Flags, len(m.Q), len(m.An), len(m.Ns), len(m.Ar)} {
		b += word(n, 2)
	}
	return b
}

// written tells what Write is to tell: all of the bytes, which are then counted. It takes no message of which the packer would refuse an entry.
func written(m api.Message) (string, api.Errno) {
	if e := checked(m); e != api.OK {
		return "", e
	}
	b, p := headed(m), wire.New()
	for _, q := range m.Q {
		told, _ := rec.Ask(p, len(b), q)
		b += string(told)
	}
	for _, x := range slices.Concat(m.An, m.Ns, m.Ar) {
		told, _ := rec.Write(p, len(b), x)
		b += string(told)
	}
	if len(b) >= 65536 {
		return "", api.ErrLong
	}
	return b, api.OK
}

// writes holds what Write tells against what it is to tell; what was handed in has to stay as it was.
func writes(t *testing.T, m api.Message, want string, e api.Errno) {
	t.Helper()
	m, all := roomy(m)
	was := clone(all)
	b, got := Write(m)
	if string(b) != want || got != e || e != api.OK && b != nil {
		t.Fatalf("Write(%s) = %.300q, %v, not %.300q, %v", short(m), b, got, want, e)
	}
	if !same(all, was) {
		t.Fatalf("Write(%s) changed it", short(m))
	}
}

// P8.2: a question alone; an answer with records in each of its lists, names told short across them; nothing at all.
func TestWriteExamples(t *testing.T) {
	writes(t, asked(), "\x00\x07\x01\x00\x00\x01\x00\x00\x00\x00\x00\x00\x01a\x00\x00\x01\x00\x01", api.OK)
	writes(t, answered(), answeredBytes(), api.OK)
	writes(t, api.Message{}, "\x00\x00\x00\x00\x00\x00\x00\x00\x00\x00\x00\x00", api.OK)
	writes(t, api.Message{ID: 258, Flags: 772, Q: []api.Question{}, An: []api.Rec{}, Ns: []api.Rec{}, Ar: []api.Rec{}}, "\x01\x02\x03\x04\x00\x00\x00\x00\x00\x00\x00\x00", api.OK)
}

// P8.2: names that stand in one list are told by their places in all that are behind it.
func TestWriteShort(t *testing.T) {
	ab := named("a", "b")
	for first := range 4 {
		for second := first; second < 4; second++ {
			var m api.Message
			want := ""
			for i, list := range []int{first, second} {
				n := ab
				if i > 0 {
					n = "\xc0\x0c"
				}
				if list == 0 {
					m.Q = append(m.Q, question(ab))
					want += n + "\x00\x01\x00\x01"
				} else {
					l := recs(&m)[list-1]
					*l = append(*l, record(ab, 2, named("c", "b")))
					data := "\x01c\xc0\x0e"
					if i > 0 && first > 0 {
						// That of the first one is at 27.
						data = "\xc0\x1b"
					}
					want += n + heading(2, 1, 5, len(data)) + data
				}
			}
			writes(t, m, headed(m)+want, api.OK)
		}
	}
	// What one message knows no other does.
	for range 2 {
		writes(t, api.Message{Q: []api.Question{question(ab), question(ab)}}, "\x00\x00\x00\x00\x00\x02\x00\x00\x00\x00\x00\x00"+ab+"\x00\x01\x00\x01\xc0\x0c\x00\x01\x00\x01", api.OK)
	}
}

// P8.2: ID, Flags and how many entries there are, each byte of each, none in another's place.
func TestWriteNumbers(t *testing.T) {
	for _, n := range inside() {
		writes(t, api.Message{ID: n}, word(n, 2)+"\x00\x00\x00\x00\x00\x00\x00\x00\x00\x00", api.OK)
		writes(t, api.Message{Flags: n}, "\x00\x00"+word(n, 2)+"\x00\x00\x00\x00\x00\x00\x00\x00", api.OK)
	}
	for list := range 4 {
		for _, n := range []int{0, 1, 2, 255, 256, 257, 258, 1027, 5000} {
			m := listed(list, n)
			want, _ := written(m)
			if string(want[4+2*list:6+2*list]) != word(n, 2) {
				t.Fatalf("%d: %q", n, want[:12])
			}
			writes(t, m, want, api.OK)
		}
	}
}

// P8.2: a message has at most 65,535 bytes, wherever the last ones stand.
func TestWriteMost(t *testing.T) {
	for list := 1; list < 4; list++ {
		for _, size := range []int{65534, 65535, 65536, 65537, 65558} {
			var m api.Message
			*recs(&m)[list-1] = []api.Rec{record("\x00", 999, filler(size-12-11))}
			want, e := headed(m)+plain(record("\x00", 999, filler(size-12-11))), api.OK
			if size > 65535 {
				want, e = "", api.ErrLong
			}
			writes(t, m, want, e)
		}
	}
	// 13,104 questions of five bytes, besides twelve, are 65,532 bytes.
	for more, e := range map[int]api.Errno{0: api.OK, 2: api.OK, 3: api.OK, 4: api.ErrLong, 5: api.ErrLong, 200: api.ErrLong} {
		m := listed(0, 13104)
		m.Q[13103].Name = sized(1 + more)
		want, got := written(m)
		if got != e || e == api.OK && len(want) != 65532+more {
			t.Fatalf("%d more: %d bytes, %v", more, len(want), got)
		}
		writes(t, m, want, e)
	}
	for list, most := range []int{13104, 5956, 5956, 5956} {
		for n, e := range map[int]api.Errno{most: api.OK, most + 1: api.ErrLong, most + 2: api.ErrLong, 65535: api.ErrLong, 65536: api.ErrLong} {
			m := listed(list, n)
			want := ""
			if e == api.OK {
				want, _ = written(m)
			}
			writes(t, m, want, e)
		}
	}
}

// P8.2: an entry that would begin, or would have a name, near the last place there is, or behind it: it is the bytes that count, not the place.
func TestWriteLastPlaces(t *testing.T) {
	fits := 0
	last := []api.Rec{record("\x00", 999, ""), record("\x00", 1, "abcd"), record(named("a"), 2, "\x00"), record("\x00", 2, named("a")), record("\x00", 15, "\x00\x05"+named("a")), record("\x00", 6, named("a")+named("b")+filler(20)), record(sized(255), 5, sized(254)), record("\x00", 16, "\x01a")}
	for _, x := range last {
		for at := 65490; at < 65560; at++ {
			for list := 1; list < 4; list++ {
				m := api.Message{An: []api.Rec{record("\x00", 999, filler(at-12-11))}}
				*recs(&m)[list-1] = append(*recs(&m)[list-1], x)
				b := headed(m) + plain(m.An[0]) + plain(x)
				if len(b) > 65535 {
					writes(t, m, "", api.ErrLong)
					continue
				}
				fits++
				writes(t, m, b, api.OK)
			}
		}
	}
	if fits < 300 {
		t.Errorf("only %d fit", fits)
	}
	// What is behind one that does not fit does not matter, if it may be.
	for _, x := range last {
		m := api.Message{Q: asked().Q, An: []api.Rec{record("\x00", 999, filler(65535)), x}, Ns: []api.Rec{x, record("\x00", 999, filler(65535)), x}, Ar: last}
		writes(t, m, "", api.ErrLong)
	}
	// Names at places that no pointer leads to are told whole, each time anew.
	m := api.Message{An: []api.Rec{record("\x00", 999, filler(16400)), record(named("a", "b"), 1, "abcd")}, Ar: []api.Rec{record(named("a", "b"), 1, "abcd")}}
	writes(t, m, headed(m)+plain(m.An[0])+plain(m.An[1])+plain(m.Ar[0]), api.OK)
}

// P8.2, rule 1: Check's error is told ahead of that there are too many bytes.
func TestWriteOrder(t *testing.T) {
	long := record("\x00", 999, filler(65535))
	for x, e := range badRecords() {
		for list := range 3 {
			m := api.Message{Q: asked().Q, An: []api.Rec{long}}
			*recs(&m)[list] = append(*recs(&m)[list], x)
			writes(t, m, "", e)
			*recs(&m)[list] = []api.Rec{x, long}
			writes(t, m, "", e)
		}
	}
	writes(t, api.Message{ID: -1, An: []api.Rec{long}}, "", api.ErrRange)
	writes(t, api.Message{Flags: 65536, An: []api.Rec{long}}, "", api.ErrRange)
	writes(t, api.Message{Q: []api.Question{{}}, An: []api.Rec{long}}, "", api.ErrBytes)
	writes(t, api.Message{An: []api.Rec{long}, Ar: make([]api.Rec, 65536)}, "", api.ErrLong)
	m := listed(0, 65535)
	m.Ar = []api.Rec{{}}
	writes(t, m, "", api.ErrBytes)
	several(func(m api.Message) {
		if e := Check(m); e != api.OK {
			if b, got := Write(m); b != nil || got != e {
				t.Fatalf("Write(%s) = %.99q, %v, not %v", short(m), b, got, e)
			}
		}
	})
}

// P8.2, P8.4: messages of all kinds are written as another way tells them, and are read as they were, and written again as they were.
func TestThereAndBack(t *testing.T) {
	s := sample.New()
	for i := range 3000 {
		m := s.Message()
		for range i % 50 / 48 * 20 {
			more := s.Message()
			m.Q, m.An, m.Ns, m.Ar = append(m.Q, more.Q...), append(m.An, more.An...), append(m.Ns, more.Ns...), append(m.Ar, more.Ar...)
		}
		want, e := written(m)
		writes(t, m, want, e)
		if e != api.OK {
			t.Fatalf("%s: %v", short(m), e)
		}
		reads(t, want, m, api.Fault{})
		back, _ := Read([]byte(want))
		writes(t, back, want, api.OK)
	}
	for _, m := range []api.Message{{}, asked(), answered(), listed(0, 13104), listed(1, 5956), listed(2, 5956), listed(3, 5956), {An: []api.Rec{record("\x00", 999, filler(65512))}}} {
		b, e := Write(m)
		if e != api.OK {
			t.Fatalf("%s: %v", short(m), e)
		}
		reads(t, string(b), m, api.Fault{})
	}
}

// P8.2, rule 4: what was written is new: who writes on it, its spare room too, changes nothing that is told later, nor what was handed in.
func TestWrittenIsNew(t *testing.T) {
	m := answered()
	for range 3 {
		b, _ := Write(m)
		other, _ := Write(m)
		for i := range b[:cap(b)] {
			b[:cap(b)][i] = 'z'
		}
		if string(other) != answeredBytes() || !same(m, answered()) {
			t.Fatalf("%q, %s", other, short(m))
		}
	}
	n, data := []byte(named("a")), []byte("\x01a\x02bc")
	m = api.Message{Q: []api.Question{{Name: unsafe.String(&n[0], len(n))}}, An: []api.Rec{record("\x00", 16, unsafe.String(&data[0], len(data)))}}
	b, _ := Write(m)
	copy(n, "zzz")
	copy(data, "zzzzz")
	if want := "\x00\x00\x00\x00\x00\x01\x00\x01\x00\x00\x00\x00" + named("a") + "\x00\x00\x00\x00\x00" + heading(16, 1, 5, 5) + "\x01a\x02bc"; string(b) != want {
		t.Errorf("%q, not %q", b, want)
	}
}

// P1: what is answered hangs on the message alone: many at the same time are told as one by one.
func TestWriteAtOnce(t *testing.T) {
	s := sample.New()
	for i := range 8 {
		m := s.Message()
		want, _ := written(m)
		t.Run(fmt.Sprint(i), func(t *testing.T) {
			t.Parallel()
			for range 200 {
				writes(t, m, want, api.OK)
				reads(t, want, m, api.Fault{})
			}
		})
	}
}
