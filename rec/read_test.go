package rec

import (
	"bytes"
	"math"
	"slices"
	"strings"
	"testing"

	"ostiary/api"
	"ostiary/rdata"
	"ostiary/sample"
	"ostiary/wire"
)

// readCase is a message, where in it a record stands, and what is to be read there.
type readCase struct {
	b    string
	at   int
	want api.Rec
	end  int
	f    api.Fault
}

// askCase is that of a question.
type askCase struct {
	b    string
	at   int
	want api.Question
	end  int
	f    api.Fault
}

// wrong tells a fault.
func wrong(e api.Errno, at int) api.Fault { return api.Fault{Err: e, At: at} }

// number tells the number that some bytes are.
func number(b []byte) int {
	n := 0
	for _, c := range b {
		n = n*256 + int(c)
	}
	return n
}

// told tells what Read is to tell: a head is all there, or the fault is at the end of the bytes.
func told(b []byte, at int) (api.Rec, int, api.Fault) {
	n, next, f := wire.Read(b, at)
	if f.Err != api.OK {
		return api.Rec{}, 0, f
	}
	if len(b)-next < 10 {
		return api.Rec{}, 0, wrong(api.ErrBytes, len(b))
	}
	x := api.Rec{Name: n, Type: number(b[next : next+2]), Class: number(b[next+2 : next+4]), TTL: number(b[next+4 : next+8])}
	if b[next+4] >= 128 {
		x.TTL = 0
	}
	size := number(b[next+8 : next+10])
	x.Data, f = rdata.Read(b, next+10, size, x.Type)
	if f.Err != api.OK {
		return api.Rec{}, 0, f
	}
	return x, next + 10 + size, api.Fault{}
}

// toldAsk tells what Question is to tell.
func toldAsk(b []byte, at int) (api.Question, int, api.Fault) {
	n, next, f := wire.Read(b, at)
	if f.Err != api.OK {
		return api.Question{}, 0, f
	}
	if len(b)-next < 4 {
		return api.Question{}, 0, wrong(api.ErrBytes, len(b))
	}
	return api.Question{Name: n, Type: number(b[next : next+2]), Class: number(b[next+2 : next+4])}, next + 4, api.Fault{}
}

// reads reads a record; what was handed in has to stay as it was.
func reads(t *testing.T, c readCase) {
	t.Helper()
	for _, b := range sample.Rooms(c.b) {
		was := slices.Clone(b[:cap(b)])
		if x, end, f := Read(b, c.at); x != c.want || end != c.end || f != c.f {
			t.Fatalf("Read(%.99q, %d) with room for %d = %.99v, %d, %v, not %.99v, %d, %v", c.b, c.at, cap(b)-len(b), x, end, f, c.want, c.end, c.f)
		}
		if !bytes.Equal(b[:cap(b)], was) {
			t.Fatalf("Read(%.99q, %d) changed it", c.b, c.at)
		}
	}
}

// asks reads a question likewise.
func asks(t *testing.T, c askCase) {
	t.Helper()
	for _, b := range sample.Rooms(c.b) {
		was := slices.Clone(b[:cap(b)])
		if q, end, f := Question(b, c.at); q != c.want || end != c.end || f != c.f {
			t.Fatalf("Question(%.99q, %d) with room for %d = %v, %d, %v, not %v, %d, %v", c.b, c.at, cap(b)-len(b), q, end, f, c.want, c.end, c.f)
		}
		if !bytes.Equal(b[:cap(b)], was) {
			t.Fatalf("Question(%.99q, %d) changed it", c.b, c.at)
		}
	}
}

// readsAs reads both, and holds what is read against what is told. What is read may be.
func readsAs(t *testing.T, b []byte, at int) bool {
	t.Helper()
	x, end, f := Read(b, at)
	if y, e, g := told(b, at); x != y || end != e || f != g {
		t.Fatalf("Read(%q, %d) = %v, %d, %v, not %v, %d, %v", b, at, x, end, f, y, e, g)
	}
	if f.Err == api.OK && (Check(x) != api.OK || !Same(x, x)) {
		t.Fatalf("Read(%q, %d) = %v, which may not be", b, at, x)
	}
	q, end, g := Question(b, at)
	if r, e, h := toldAsk(b, at); q != r || end != e || g != h {
		t.Fatalf("Question(%q, %d) = %v, %d, %v, not %v, %d, %v", b, at, q, end, g, r, e, h)
	}
	if f.Err == api.OK && q != (api.Question{Name: x.Name, Type: x.Type, Class: x.Class}) {
		t.Fatalf("of %q at %d the question is %v, the record %v", b, at, q, x)
	}
	return f.Err == api.OK
}

// P7.2: the chapter's examples, one by one.
func TestReadExamples(t *testing.T) {
	reads(t, readCase{"\x00\x00\x01\x00\x01\x80\x00\x00\x00\x00\x04\x01\x02\x03\x04", 0, api.Rec{Name: "\x00", Type: 1, Class: 1, Data: "\x01\x02\x03\x04"}, 15, api.Fault{}})
	reads(t, readCase{"\x00\x00\x01\x00", 0, api.Rec{}, 0, wrong(api.ErrBytes, 4)})
	asks(t, askCase{"\x01a\x00\x00\x01\x00\x01", 0, api.Question{Name: "\x01a\x00", Type: 1, Class: 1}, 7, api.Fault{}})
}

// P7.2: records of each type, wherever they stand, are read as they are.
func TestReadGood(t *testing.T) {
	for kind, l := range good() {
		for _, data := range l {
			for _, n := range []string{"\x00", named("A", "b"), sized(255)} {
				x := api.Rec{Name: n, Type: kind, Class: 1, TTL: 5, Data: data}
				for _, ahead := range []string{"", "\x00", filler(40)} {
					for _, behind := range []string{"", "\x00", "\xc0\x00", filler(40)} {
						b := ahead + plain(x)
						reads(t, readCase{b + behind, len(ahead), x, len(b), api.Fault{}})
					}
				}
			}
		}
	}
}

// P7.2: the numbers of a head, each byte of each, and none in another's place.
func TestReadNumbers(t *testing.T) {
	for _, n := range []int{0, 1, 3, 255, 256, 258, 32767, 32768, 65279, 65534, 65535} {
		reads(t, readCase{"\x00" + heading(n, 1, 5, 4) + "\x00\x00\x00\x00", 0, api.Rec{Name: "\x00", Type: n, Class: 1, TTL: 5, Data: "\x00\x00\x00\x00"}, 15, api.Fault{}})
		reads(t, readCase{"\x00" + heading(999, n, 5, 0), 0, api.Rec{Name: "\x00", Type: 999, Class: n, TTL: 5}, 11, api.Fault{}})
		reads(t, readCase{"\x00" + heading(999, 1, 5, n) + filler(n), 0, api.Rec{Name: "\x00", Type: 999, Class: 1, TTL: 5, Data: filler(n)}, 11 + n, api.Fault{}})
		asks(t, askCase{"\x00" + word(n, 2) + "\x00\x01", 0, api.Question{Name: "\x00", Type: n, Class: 1}, 5, api.Fault{}})
		asks(t, askCase{"\x00\x00\x01" + word(n, 2) + "\x07", 0, api.Question{Name: "\x00", Type: 1, Class: n}, 5, api.Fault{}})
	}
	for i := range 10 {
		for c := range 256 {
			b := []byte("\x00" + heading(999, 1, 5, 0) + filler(66000))
			b[1+i] = byte(c)
			readsAs(t, b, 0)
		}
	}
}

// P7.2: a TTL that stands as 2^31 or more is 0.
func TestReadTTL(t *testing.T) {
	for stands, want := range map[int]int{0: 0, 1: 1, 255: 255, 256: 256, 65536: 65536, 1<<24 + 2: 1<<24 + 2, 1<<31 - 2: 1<<31 - 2, 1<<31 - 1: 1<<31 - 1, 1 << 31: 0, 1<<31 + 1: 0, 1<<31 + 1<<30: 0, 1<<32 - 2: 0, 1<<32 - 1: 0} {
		for kind, data := range map[int]string{1: "abcd", 999: "", 2: "\x00"} {
			b := "\x01a\x00" + heading(kind, 1, stands, len(data)) + data
			reads(t, readCase{b, 0, api.Rec{Name: "\x01a\x00", Type: kind, Class: 1, TTL: want, Data: data}, len(b), api.Fault{}})
		}
	}
}

// P7.2: bytes that end within the name, within each number of the head, within the data: the fault is where they end.
func TestReadCut(t *testing.T) {
	for kind, l := range good() {
		x := api.Rec{Name: named("A", "bc"), Type: kind, Class: 1, TTL: 5, Data: l[len(l)-1]}
		for _, ahead := range []string{"", "\x01a\x00", filler(7)} {
			b := ahead + plain(x)
			for cut := len(ahead); cut < len(b); cut++ {
				if cut > len(ahead)+40 && cut < len(b)-3 {
					continue
				}
				reads(t, readCase{b[:cut], len(ahead), api.Rec{}, 0, wrong(api.ErrBytes, cut)})
			}
		}
	}
	for ahead := range 3 {
		b := filler(ahead) + named("A", "bc") + "\x00\x01\x00\x01"
		for cut := ahead; cut < len(b); cut++ {
			asks(t, askCase{b[:cut], ahead, api.Question{}, 0, wrong(api.ErrBytes, cut)})
		}
	}
	// Behind a pointer.
	b := "\x01a\x00\xc0\x00" + heading(1, 1, 5, 4) + "abcd"
	for cut := 3; cut < len(b); cut++ {
		reads(t, readCase{b[:cut], 3, api.Rec{}, 0, wrong(api.ErrBytes, cut)})
	}
	reads(t, readCase{b, 3, api.Rec{Name: "\x01a\x00", Type: 1, Class: 1, TTL: 5, Data: "abcd"}, len(b), api.Fault{}})
}

// P7.2: the faults of the record's own name, ahead of all that is behind it.
func TestReadOwnName(t *testing.T) {
	for _, c := range []struct {
		b  string
		at int
		f  api.Fault
	}{
		{"", 0, wrong(api.ErrBytes, 0)}, {"\x40", 0, wrong(api.ErrBytes, 0)}, {"\x01a\x80\x00", 0, wrong(api.ErrBytes, 2)}, {"zz\x01a\xbf\x00", 2, wrong(api.ErrBytes, 4)}, {"\xc0", 0, wrong(api.ErrBytes, 1)}, {"\x3faaa", 0, wrong(api.ErrBytes, 4)},
		{"\xc0\x00", 0, wrong(api.ErrLoop, 0)}, {"\x01a\xc0\x00", 0, wrong(api.ErrLoop, 2)}, {"\x00\xc0\x05", 1, wrong(api.ErrLoop, 1)}, {"\x00\x01a\xc0\x01", 1, wrong(api.ErrLoop, 3)},
		{sized(256), 0, wrong(api.ErrLong, 0)}, {"z" + sized(256), 1, wrong(api.ErrLong, 1)}, {sized(254) + "\x01b\xc0\x00", 254, wrong(api.ErrLong, 254)},
	} {
		behind := []string{"", heading(1, 1, 5, 4) + "abcd", heading(1, 1, 5, 3) + "abc"}
		if c.f.At == len(c.b) {
			behind = behind[:1]
		}
		for _, more := range behind {
			reads(t, readCase{c.b + more, c.at, api.Rec{}, 0, c.f})
			asks(t, askCase{c.b + more, c.at, api.Question{}, 0, c.f})
		}
	}
	n := sized(255)
	b := n + "\xc0\x00" + heading(999, 1, 5, 0)
	reads(t, readCase{b, 255, api.Rec{Name: n, Type: 999, Class: 1, TTL: 5}, len(b), api.Fault{}})
	asks(t, askCase{b, 255, api.Question{Name: n, Type: 999, Class: 1}, 261, api.Fault{}})
	// The longest name of the most parts.
	b = "\x00"
	for range 127 {
		b += "\x01Q" + word(0xc000+max(len(b)-4, 0), 2)
	}
	at := len(b) - 4
	b += heading(999, 1, 5, 0)
	reads(t, readCase{b, at, api.Rec{Name: strings.Repeat("\x01Q", 127) + "\x00", Type: 999, Class: 1, TTL: 5}, len(b), api.Fault{}})
}

// P7.2: places that are none.
func TestReadPlaces(t *testing.T) {
	for _, b := range []string{"", "\x00", "\x00" + heading(1, 1, 5, 4) + "abcd"} {
		for _, at := range []int{math.MinInt, -1 << 32, -2, -1, len(b) + 1, len(b) + 2, 65536, 1 << 32, math.MaxInt} {
			reads(t, readCase{b, at, api.Rec{}, 0, wrong(api.ErrRange, 0)})
			asks(t, askCase{b, at, api.Question{}, 0, wrong(api.ErrRange, 0)})
		}
		reads(t, readCase{b, len(b), api.Rec{}, 0, wrong(api.ErrBytes, len(b))})
		asks(t, askCase{b, len(b), api.Question{}, 0, wrong(api.ErrBytes, len(b))})
	}
	if x, end, f := Read(nil, 0); x != (api.Rec{}) || end != 0 || f != wrong(api.ErrBytes, 0) {
		t.Error(x, end, f)
	}
	if q, end, f := Question(nil, 0); q != (api.Question{}) || end != 0 || f != wrong(api.ErrBytes, 0) {
		t.Error(q, end, f)
	}
	// A message may have more bytes than any message that is written.
	x := api.Rec{Name: "\x01a\x00", Type: 1, Class: 1, TTL: 5, Data: "abcd"}
	for _, ahead := range []int{16384, 65535, 65536, 100000} {
		reads(t, readCase{filler(ahead) + plain(x), ahead, x, ahead + 17, api.Fault{}})
		asks(t, askCase{filler(ahead) + plain(x), ahead, api.Question{Name: "\x01a\x00", Type: 1, Class: 1}, ahead + 7, api.Fault{}})
	}
}

// P7.2: how many bytes the data are to have: none, too few, too many, more than there are.
func TestReadSizes(t *testing.T) {
	for _, c := range []struct {
		t, size int
		data    string
		want    string
		f       api.Fault
	}{
		{999, 0, "", "", api.Fault{}}, {999, 0, "abc", "", api.Fault{}}, {999, 2, "abc", "ab", api.Fault{}}, {999, 3, "abc", "abc", api.Fault{}}, {999, 4, "abc", "", wrong(api.ErrBytes, 16)}, {999, 65535, "abc", "", wrong(api.ErrBytes, 16)}, {999, 1, "", "", wrong(api.ErrBytes, 13)},
		{1, 0, "abcd", "", wrong(api.ErrBytes, 13)}, {1, 0, "", "", wrong(api.ErrBytes, 13)}, {1, 3, "abcd", "", wrong(api.ErrBytes, 13)}, {1, 4, "abcde", "abcd", api.Fault{}}, {1, 5, "abcde", "", wrong(api.ErrBytes, 13)}, {1, 5, "abcd", "", wrong(api.ErrBytes, 17)},
		{2, 0, "\x00", "", wrong(api.ErrBytes, 13)}, {2, 1, "\x00", "\x00", api.Fault{}}, {2, 2, "\x00", "", wrong(api.ErrBytes, 14)}, {2, 2, "\x00\x00", "", wrong(api.ErrBytes, 13)}, {2, 2, "\x01b\x00", "", wrong(api.ErrBytes, 13)}, {2, 1, "\xc0\x00", "", wrong(api.ErrBytes, 13)},
		{15, 2, "\x00\x05\x00", "", wrong(api.ErrBytes, 13)}, {15, 3, "\x00\x05\x00", "\x00\x05\x00", api.Fault{}}, {16, 0, "\x00", "", wrong(api.ErrBytes, 13)}, {16, 1, "\x01a", "", wrong(api.ErrBytes, 13)}, {6, 21, "\x00\x00" + filler(20), "", wrong(api.ErrBytes, 13)}, {28, 15, filler(16), "", wrong(api.ErrBytes, 13)},
		// Of a name in the data the fault is where it is, of its size where the bytes end.
		{2, 2, "\xc0\x0d", "", wrong(api.ErrLoop, 13)}, {2, 3, "\xc0\x0d", "", wrong(api.ErrBytes, 15)}, {5, 4, "\x01b\xc0\xff", "", wrong(api.ErrLoop, 15)}, {12, 3, "\x01b\x40", "", wrong(api.ErrBytes, 15)}, {15, 4, "\x00\x05\xc0\x0f", "", wrong(api.ErrLoop, 15)}, {6, 23, "\x00\xc0\x0e" + filler(20), "", wrong(api.ErrLoop, 14)}, {2, 256, sized(256), "", wrong(api.ErrLong, 13)},
	} {
		b := "\x01a\x00" + heading(c.t, 1, 5, c.size) + c.data
		want, end := api.Rec{Name: "\x01a\x00", Type: c.t, Class: 1, TTL: 5, Data: c.want}, 13+c.size
		if c.f.Err != api.OK {
			want, end = api.Rec{}, 0
		}
		reads(t, readCase{b, 0, want, end, c.f})
	}
}

// P7.2: names in the data that end with a pointer to the record's own name, to what is within it, or to what is ahead of it.
func TestReadShort(t *testing.T) {
	for _, c := range []struct {
		t          int
		data, want string
	}{
		// zz. is at 0, a.b. at 4, b. at 6, the root at 8; the data begin at 19.
		{2, "\xc0\x04", named("a", "b")}, {5, "\xc0\x06", named("b")}, {12, "\xc0\x00", named("zz")}, {2, "\x01c\xc0\x04", named("c", "a", "b")}, {2, "\x01c\xc0\x08", named("c")}, {2, "\x01c\x01d\xc0\x00", named("c", "d", "zz")},
		{15, "\x00\x05\xc0\x04", "\x00\x05" + named("a", "b")}, {15, "\x00\x05\x01c\xc0\x06", "\x00\x05" + named("c", "b")},
		{6, "\xc0\x04\x01h\xc0\x06" + filler(20), named("a", "b") + named("h", "b") + filler(20)}, {6, "\x01n\xc0\x06\xc0\x13" + filler(20), named("n", "b") + named("n", "b") + filler(20)}, {6, "\xc0\x00\xc0\x04" + filler(20), named("zz") + named("a", "b") + filler(20)},
		// Bytes of the head may be a name, too: the first one of its TTL is at 13.
		{2, "\xc0\x0d", "\x00"},
		// What only looks like a pointer is none.
		{16, "\x02\xc0\x04", "\x02\xc0\x04"}, {999, "\xc0\x04", "\xc0\x04"}, {1, "\xc0\x04\xc0\x04", "\xc0\x04\xc0\x04"},
	} {
		b := named("zz") + named("a", "b") + heading(c.t, 1, 5, len(c.data)) + c.data
		x := api.Rec{Name: named("a", "b"), Type: c.t, Class: 1, TTL: 5, Data: c.want}
		reads(t, readCase{b, 4, x, len(b), api.Fault{}})
		reads(t, readCase{b + "\x00", 4, x, len(b), api.Fault{}})
	}
	// The record's own name is told by a pointer, and so are those in its data, by way of it.
	b := named("A", "b") + "\x01c\xc0\x02" + heading(15, 1, 5, 6) + "\x00\x05\x01d\xc0\x05"
	reads(t, readCase{b, 5, api.Rec{Name: named("c", "b"), Type: 15, Class: 1, TTL: 5, Data: "\x00\x05" + named("d", "c", "b")}, len(b), api.Fault{}})
	asks(t, askCase{b, 5, api.Question{Name: named("c", "b"), Type: 15, Class: 1}, 13, api.Fault{}})
	// Two names of 255 bytes in 24 bytes of data.
	n := sized(255)
	b = n + heading(6, 1, 5, 24) + "\xc0\x00\xc0\x00" + filler(20)
	reads(t, readCase{b, 0, api.Rec{Name: n, Type: 6, Class: 1, TTL: 5, Data: n + n + filler(20)}, len(b), api.Fault{}})
}

// P7.2: at each place of all short messages of letters that mean something, with a head, or a part of one, behind them.
func TestReadEachShort(t *testing.T) {
	letters, words := "\x00\x01a\xc0", []string{""}
	for from := 0; len(words) < 1000; {
		to := len(words)
		for _, w := range words[from:to] {
			for i := range len(letters) {
				words = append(words, w+letters[i:i+1])
			}
		}
		from = to
	}
	read := 0
	for _, w := range words {
		for _, more := range []string{"", "\x00\x01\x00\x01\x00\x00\x00\x01\x00\x04abcd", "\x00\x02\x00\x01\x80\x00\x00\x01\x00\x02\xc0\x00", "\x00\x00\x00\x00\x00\x00\x00\x00\x00\x00", "\x00\x00\x00\x00\x00\x00\x00"} {
			b := []byte(w + more)
			for at := range b {
				if readsAs(t, b, at) {
					read++
				}
			}
		}
	}
	if read < 1000 {
		t.Errorf("only %d are records", read)
	}
}

// P7.2: at each place of random messages, in which records stand, often with names told by pointers.
func TestReadRandom(t *testing.T) {
	s := sample.New()
	read := 0
	for range 3000 {
		var b []byte
		for len(b) < 100 {
			to := word(0xc000+s.Below(len(b)+1), 2)
			data := []string{"abcd", to, "\x01c" + to, "\x00\x05" + to, "\x00" + to + filler(20), "\x02ab", s.Bytes(s.Below(20))}
			kind := s.Below(len(data))
			n := []string{"\x00", "\x01b" + to, to, named("a", "B")}[s.Below(4)]
			b = append(b, n+heading([]int{1, 2, 5, 15, 6, 16, 999}[kind], s.Below(3), s.Below(5)<<29, len(data[kind])+s.Below(40)/39)+data[kind]...)
		}
		for at := range len(b) + 1 {
			if readsAs(t, b, at) {
				read++
			}
		}
	}
	if read < 5000 {
		t.Errorf("only %d are records", read)
	}
}

// Rule 4: what was read is new: the message may change behind it.
func TestReadKeepsNothing(t *testing.T) {
	for kind, l := range good() {
		x := api.Rec{Name: named("A", "b"), Type: kind, Class: 1, TTL: 5, Data: l[len(l)-1]}
		b := []byte(plain(x))
		y, _, f := Read(b, 0)
		q, _, g := Question(b, 0)
		for i := range b {
			b[i] ^= 85
		}
		if y != x || f != (api.Fault{}) || q.Name != x.Name || g != (api.Fault{}) {
			t.Errorf("%d: %v, %v; %v, %v", kind, y, f, q, g)
		}
	}
}
