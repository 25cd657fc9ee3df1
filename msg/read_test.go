package msg

import (
	"bytes"
	"slices"
	"strings"
	"testing"

	"ostiary/api"
	"ostiary/rec"
	"ostiary/sample"
)

// wrong tells a fault.
func wrong(e api.Errno, at int) api.Fault { return api.Fault{Err: e, At: at} }

// head tells the twelve bytes of a message of which the lists are to have so many entries.
func head(q, an, ns, ar int) string {
	return "\x01\x02\x03\x04" + word(q, 2) + word(an, 2) + word(ns, 2) + word(ar, 2)
}

// reads holds what Read tells against what it is to tell; what was handed in has to stay as it was, and what is behind it does not matter.
func reads(t *testing.T, b string, want api.Message, f api.Fault) {
	t.Helper()
	for _, b := range sample.Rooms(b) {
		was := slices.Clone(b[:cap(b)])
		m, got := Read(b)
		if !same(m, want) || got != f || f.Err != api.OK && !none(m) {
			t.Fatalf("Read(%.300q) with room for %d = %s, %v, not %s, %v", b, cap(b)-len(b), short(m), got, short(want), f)
		}
		if !bytes.Equal(b[:cap(b)], was) {
			t.Fatalf("Read(%.300q) changed it", b)
		}
	}
}

// told tells what Read is to tell: the records of all lists are read as one list, which is then cut.
func told(b []byte) (api.Message, api.Fault) {
	if len(b) >= 65536 {
		return api.Message{}, wrong(api.ErrLong, 0)
	}
	if len(b) <= 11 {
		return api.Message{}, wrong(api.ErrBytes, len(b))
	}
	var n [6]int
	for i := range n {
		n[i] = int(b[2*i])*256 + int(b[2*i+1])
	}
	m, at := api.Message{ID: n[0], Flags: n[1]}, 12
	for len(m.Q) < n[2] {
		q, end, f := rec.Question(b, at)
		if f != (api.Fault{}) {
			return api.Message{}, f
		}
		m.Q, at = append(m.Q, q), end
	}
	var all []api.Rec
	for len(all) < n[3]+n[4]+n[5] {
		x, end, f := rec.Read(b, at)
		if f != (api.Fault{}) {
			return api.Message{}, f
		}
		all, at = append(all, x), end
	}
	if at != len(b) {
		return api.Message{}, wrong(api.ErrBytes, at)
	}
	m.An, m.Ns, m.Ar = all[:n[3]], all[n[3]:n[3]+n[4]], all[n[3]+n[4]:]
	return m, api.Fault{}
}

// readsAs reads, and holds that against what is told. What is read may be, and, if it can be written, is read again as it was. It tells whether it could be read.
func readsAs(t *testing.T, b []byte) bool {
	t.Helper()
	m, f := Read(b)
	if want, g := told(b); !same(m, want) || f != g || f.Err != api.OK && !none(m) {
		t.Fatalf("Read(%q) = %s, %v, not %s, %v", b, short(m), f, short(want), g)
	}
	if f.Err != api.OK {
		return false
	}
	if e := Check(m); e != api.OK {
		t.Fatalf("Read(%q) = %s, which may not be: %v", b, short(m), e)
	}
	written, e := Write(m)
	if e != api.OK {
		t.Fatalf("Read(%q) = %s, written: %v", b, short(m), e)
	}
	if again, f := Read(written); !same(again, m) || f != (api.Fault{}) {
		t.Fatalf("Read(%q) = %s, written %q, and read %s, %v", b, short(m), written, short(again), f)
	}
	return true
}

// P8.2: the chapter's examples, and others of each kind.
func TestReadExamples(t *testing.T) {
	b := "\x00\x07\x01\x00\x00\x01\x00\x00\x00\x00\x00\x00\x01a\x00\x00\x01\x00\x01"
	reads(t, b, asked(), api.Fault{})
	reads(t, b[:11], api.Message{}, wrong(api.ErrBytes, 11))
	reads(t, b+"\x00", api.Message{}, wrong(api.ErrBytes, 19))
	reads(t, strings.Repeat("\x00", 12), api.Message{}, api.Fault{})
	reads(t, answeredBytes(), answered(), api.Fault{})
	reads(t, "\x01\x02\x03\x04\x00\x00\x00\x00\x00\x00\x00\x00", api.Message{ID: 258, Flags: 772}, api.Fault{})
	if m, f := Read(nil); !none(m) || f != wrong(api.ErrBytes, 0) {
		t.Error(short(m), f)
	}
}

// P8.2: ID and Flags, each byte of each; and how many entries each list has, each byte of each.
func TestReadNumbers(t *testing.T) {
	for n := range 65536 {
		if m, f := Read([]byte(word(n, 2) + word(65535-n, 2) + "\x00\x00\x00\x00\x00\x00\x00\x00")); !same(m, api.Message{ID: n, Flags: 65535 - n}) || f != (api.Fault{}) {
			t.Fatalf("%d: %s, %v", n, short(m), f)
		}
	}
	for list := range 4 {
		for _, n := range []int{0, 1, 2, 255, 256, 257, 258, 1027, 5000} {
			m := listed(list, n)
			b, _ := written(m)
			reads(t, b, m, api.Fault{})
		}
	}
}

// P8.2: bytes that end within the head, within a question, within a record of each list, or between them: the fault is where they end.
func TestReadCut(t *testing.T) {
	s := sample.New()
	for i := range 40 {
		m := answered()
		if i > 0 {
			m = s.Message()
		}
		b, _ := written(m)
		for cut := range len(b) {
			if m, f := Read([]byte(b[:cut])); !none(m) || f != wrong(api.ErrBytes, cut) {
				t.Fatalf("Read(%q) = %s, %v, not ErrBytes at %d", b[:cut], short(m), f, cut)
			}
		}
	}
	for cut := range len(answeredBytes()) {
		reads(t, answeredBytes()[:cut], api.Message{}, wrong(api.ErrBytes, cut))
	}
}

// P8.2: bytes that are left behind the last entry: the fault is at the first one.
func TestReadLeft(t *testing.T) {
	for _, m := range []api.Message{{}, asked(), answered(), {Q: asked().Q, An: answered().An}, {Ns: answered().Ns}} {
		b, _ := written(m)
		for _, left := range []string{"\x00", "\xff", "\xc0\x0c", "\x00\x00\x01\x00\x01", plain(record("\x00", 1, "abcd")), filler(1000)} {
			reads(t, b+left, api.Message{}, wrong(api.ErrBytes, len(b)))
		}
	}
	// Up to the most bytes there are.
	b, _ := written(asked())
	reads(t, b+filler(65535-len(b)), api.Message{}, wrong(api.ErrBytes, len(b)))
	reads(t, b+filler(65536-len(b)), api.Message{}, wrong(api.ErrLong, 0))
}

// P8.2: lists that are to have more entries than there are, and fewer.
func TestReadCounts(t *testing.T) {
	for list := range 4 {
		for _, have := range []int{0, 1, 2, 7} {
			m := listed(list, have)
			b, _ := written(m)
			for _, n := range []int{0, 1, 2, 3, 7, 8, 9, 255, 256, 257, 32768, 65535} {
				c := b[:4+2*list] + word(n, 2) + b[6+2*list:]
				switch {
				case n == have:
					reads(t, c, m, api.Fault{})
				case n > have:
					reads(t, c, api.Message{}, wrong(api.ErrBytes, len(b)))
				default:
					reads(t, c, api.Message{}, wrong(api.ErrBytes, 12+n*(len(b)-12)/have))
				}
			}
		}
	}
	// An entry of one list does not stand for one of another list, but as far as its bytes do.
	q, x := "\x00\x00\x01\x00\x01", "\x00"+heading(999, 1, 5, 0)
	reads(t, head(2, 0, 0, 0)+q, api.Message{}, wrong(api.ErrBytes, 17))
	reads(t, head(1, 1, 0, 0)+q, api.Message{}, wrong(api.ErrBytes, 17))
	reads(t, head(0, 1, 0, 0)+q, api.Message{}, wrong(api.ErrBytes, 17))
	reads(t, head(1, 0, 0, 0)+x, api.Message{}, wrong(api.ErrBytes, 17))
	reads(t, head(0, 1, 1, 1)+x+x, api.Message{}, wrong(api.ErrBytes, 34))
	reads(t, head(0, 0, 0, 2)+x, api.Message{}, wrong(api.ErrBytes, 23))
	// Records move from list to list, when the numbers say so.
	one, two, three := record("\x00", 1, "abcd"), record("\x00", 1, "efgh"), record("\x00", 1, "ijkl")
	all := []api.Rec{one, two, three}
	for an := range 4 {
		for ns := range 4 - an {
			m := api.Message{ID: 258, Flags: 772, An: all[:an], Ns: all[an : an+ns], Ar: all[an+ns:]}
			reads(t, head(0, an, ns, 3-an-ns)+plain(one)+plain(two)+plain(three), m, api.Fault{})
		}
	}
}

// P8.2: at most 65,535 bytes, whatever they are: the fault is at 0, ahead of all others.
func TestReadMost(t *testing.T) {
	for _, size := range []int{65534, 65535, 65536, 65537, 70000, 200000} {
		x := record("\x00", 999, filler(min(size-12-11, 65535)))
		full := head(0, 1, 0, 0) + plain(x)
		full += filler(size - len(full))
		for b, f := range map[string]api.Fault{full: {}, strings.Repeat("\x00", size): wrong(api.ErrBytes, 12), filler(size): wrong(api.ErrLoop, 12), strings.Repeat("\x80", size): wrong(api.ErrBytes, 12), head(1, 0, 0, 0) + strings.Repeat("\x01a", size/2-6) + filler(size%2): wrong(api.ErrLong, 12)} {
			want := api.Message{}
			if size > 65535 {
				f = wrong(api.ErrLong, 0)
			} else if f == (api.Fault{}) {
				want = api.Message{ID: 258, Flags: 772, An: []api.Rec{x}}
			}
			reads(t, b, want, f)
		}
	}
}

// broken is an entry that can't be read, why, and how far behind its first byte the fault is.
type broken struct {
	b     string
	e     api.Errno
	after int
}

// P8.2: the faults of questions and records, each at its place, in each list; the first one is told.
func TestReadFaults(t *testing.T) {
	q, x := "\x01a\x00\x00\x01\x00\x01", plain(record("\x00", 1, "abcd"))
	asks := []broken{{"\x40" + filler(20), api.ErrBytes, 0}, {"\x01a\x80" + filler(20), api.ErrBytes, 2}, {"\xff\xff" + filler(20), api.ErrLoop, 0}, {"\x01b\xff\xff" + filler(20), api.ErrLoop, 2}, {sized(256) + filler(20), api.ErrLong, 0}}
	faults := append(slices.Clone(asks),
		broken{"\x00" + heading(1, 1, 5, 3) + "abcd" + filler(20), api.ErrBytes, 11}, broken{"\x00" + heading(1, 1, 5, 5) + "abcd" + filler(20), api.ErrBytes, 11},
		broken{"\x00" + heading(2, 1, 5, 2) + "\xff\xff" + filler(20), api.ErrLoop, 11}, broken{"\x00" + heading(15, 1, 5, 6) + "\x00\x05\x01b\xff\xff" + filler(20), api.ErrLoop, 15}, broken{"\x00" + heading(2, 1, 5, 256) + sized(256), api.ErrLong, 11},
	)
	for ahead := range 3 {
		for behind := range 2 {
			for _, c := range asks {
				b := head(ahead+1+behind, 1, 1, 1) + strings.Repeat(q, ahead)
				reads(t, b+c.b, api.Message{}, wrong(c.e, len(b)+c.after))
				// What is behind it does not matter.
				reads(t, b+c.b+"\x80\xff\xff", api.Message{}, wrong(c.e, len(b)+c.after))
			}
			for _, c := range faults {
				for list := range 3 {
					n := [3]int{ahead, ahead, ahead}
					n[list] += 1 + behind
					b := head(1, n[0], n[1], n[2]) + q + strings.Repeat(x, ahead*(list+1))
					reads(t, b+c.b, api.Message{}, wrong(c.e, len(b)+c.after))
					reads(t, b+c.b+"\x80\xff\xff", api.Message{}, wrong(c.e, len(b)+c.after))
				}
			}
		}
	}
	// A record whose data are more than what is left.
	reads(t, head(0, 0, 1, 0)+"\x00"+heading(1, 1, 5, 4)+"abc", api.Message{}, wrong(api.ErrBytes, 26))
	reads(t, head(0, 0, 1, 0)+"\x00"+heading(999, 1, 5, 65535)+"abc", api.Message{}, wrong(api.ErrBytes, 26))
}

// P8.2: names may be told by any place ahead, the head's bytes among them; a TTL of 2^31 or more is 0.
func TestReadOdd(t *testing.T) {
	reads(t, head(1, 0, 0, 0)+"\xc0\x06\x00\x01\x00\x01", api.Message{ID: 258, Flags: 772, Q: []api.Question{question("\x00")}}, api.Fault{})
	// 1 2 3 4 0 1 .. from the ID on is the label 2, then the label 4 0 1, and 0.
	reads(t, head(1, 0, 0, 0)+"\xc0\x00\x00\x01\x00\x01", api.Message{ID: 258, Flags: 772, Q: []api.Question{question(named("\x02", "\x04\x00\x01"))}}, api.Fault{})
	reads(t, head(1, 0, 0, 0)+"\xc0\x0c\x00\x01\x00\x01", api.Message{}, wrong(api.ErrLoop, 12))
	for stands, ttl := range map[int]int{0: 0, 5: 5, 1<<31 - 1: 1<<31 - 1, 1 << 31: 0, 1<<32 - 1: 0} {
		for list := range 3 {
			m := api.Message{ID: 258, Flags: 772}
			*recs(&m)[list] = []api.Rec{{Name: "\x00", Type: 1, Class: 1, TTL: ttl, Data: "abcd"}}
			n := [3]int{}
			n[list] = 1
			reads(t, head(0, n[0], n[1], n[2])+"\x00"+heading(1, 1, stands, 4)+"abcd", m, api.Fault{})
		}
	}
}

// P8.2, P8.4: all messages of a few entries, whole and broken, whatever the numbers say of them.
func TestReadEachShort(t *testing.T) {
	parts := []string{"\x00\x00\x01\x00\x01", "\x00" + heading(1, 1, 5, 4) + "abcd", "\xc0\x0c" + heading(2, 1, 1<<31, 2) + "\xc0\x0c", "\x01a\xc0\x0c\x00\x01\x00\x01", "\x00", "\xc0\x0c\x00"}
	read := 0
	for i := range 81 {
		h := head(i/27, i/9%3, i/3%3, i%3)
		for _, w := range sample.Words("\x00\x01\x02\x03\x04\x05", 3) {
			b := h
			for j := range len(w) {
				b += parts[w[j]]
			}
			if readsAs(t, []byte(b)) {
				read++
			}
		}
	}
	if read < 100 {
		t.Errorf("only %d are messages", read)
	}
}

// P8.2, P8.4: messages that were written, with a byte or two that are others, and bytes of any kind.
func TestReadRandom(t *testing.T) {
	s := sample.New()
	read := 0
	for range 1500 {
		b, _ := written(s.Message())
		for range 20 {
			c := []byte(b)
			for range 1 + s.Below(2) {
				c[s.Below(len(c))] = []byte{0, 1, 2, 3, 192, 12, byte(s.Below(256))}[s.Below(7)]
			}
			if readsAs(t, c) {
				read++
			}
		}
		readsAs(t, []byte(s.Bytes(s.Below(60))))
		readsAs(t, []byte(head(s.Below(2), s.Below(2), s.Below(2), s.Below(2))+s.Bytes(s.Below(30))))
	}
	if read < 5000 {
		t.Errorf("only %d are messages", read)
	}
}

// P8.4: what is read may be, but not all of it can be written: names of which pointers tell, standing in what is no name, take more bytes by themselves.
func TestReadButNotWritten(t *testing.T) {
	data, at := "", 12+11
	var places []int
	for range 64 {
		places = append(places, at+len(data))
		for i := range 127 {
			data += "\x01" + string([]byte{byte(len(places)), byte(i)}[i%2])
		}
		data += "\x00"
	}
	for records, e := range map[int]api.Errno{64: api.OK, 200: api.ErrLong, 4000: api.ErrLong} {
		b := head(0, 1, records, 0) + plain(record("\x00", 999, data))
		want := api.Message{ID: 258, Flags: 772, An: []api.Rec{record("\x00", 999, data)}}
		for i := range records {
			place := places[i%64]
			b += word(0xc000+place, 2) + heading(999, 1, 5, 0)
			want.Ns = append(want.Ns, record(data[place-at:place-at+255], 999, ""))
		}
		reads(t, b, want, api.Fault{})
		checks(t, want, api.OK)
		again, got := Write(want)
		if got != e || e != api.OK && again != nil {
			t.Fatalf("%d records: %d bytes, %v", records, len(again), got)
		}
		if e == api.OK {
			reads(t, string(again), want, api.Fault{})
		}
	}
}

// P8.2, rule 4: what was read is new: the bytes may change behind it, and no list has another's room.
func TestReadKeepsNothing(t *testing.T) {
	b := []byte(answeredBytes())
	m, f := Read(b)
	for i := range b {
		b[i] ^= 85
	}
	if !same(m, answered()) || f != (api.Fault{}) {
		t.Fatalf("%s, %v", short(m), f)
	}
	for _, l := range recs(&m) {
		for i := len(*l); i < cap(*l); i++ {
			(*l)[:cap(*l)][i] = record("z", 9, "z")
		}
		*l = append(*l, record("y", 9, "y"))
	}
	m.Q = append(m.Q, question("z"))
	for _, l := range recs(&m) {
		*l = (*l)[:len(*l)-1]
	}
	m.Q = m.Q[:1]
	if !same(m, answered()) {
		t.Fatal(short(m))
	}
	again, _ := Read([]byte(answeredBytes()))
	if !same(again, answered()) {
		t.Fatal(short(again))
	}
}
