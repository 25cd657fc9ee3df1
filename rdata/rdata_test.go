package rdata

import (
	"math"
	"strings"
	"testing"
	"unsafe"

	"ostiary/api"
	"ostiary/name"
	"ostiary/sample"
)

var named, sized, filler, words = sample.Named, sample.Sized, sample.Filler, sample.Words

// table is all types of the chapter's table; others are types that are not in it, each beside one that is, or at an edge.
var (
	table  = []int{1, 2, 5, 6, 12, 15, 16, 28}
	others = []int{0, 3, 4, 7, 11, 13, 14, 17, 27, 29, 41, 255, 256, 257, 999, 32767, 32768, 65534, 65535}
	noType = []int{math.MinInt, -1 << 32, -65535, -28, -2, -1, 65536, 65537, 65538, 1 << 32, 1<<32 + 2, math.MaxInt}
)

// nameAt tells how many bytes the name has with which bytes begin; 0, if they begin with none.
func nameAt(b string) int {
	for end := 1; end <= min(len(b), 255); end++ {
		if name.Check(b[:end]) == api.OK {
			return end
		}
	}
	return 0
}

// cut tells the pieces of data by a type's number, names being every second one, from the second on; false, if they are not the data of that type.
func cut(t int, data string) ([]string, bool) {
	n := 0
	switch t {
	case 1:
		return []string{data}, len(data) == 4
	case 28:
		return []string{data}, len(data) == 16
	case 2, 5, 12:
		n = nameAt(data)
		return []string{"", data}, n > 0 && n == len(data)
	case 15:
		if len(data) < 3 || nameAt(data[2:]) != len(data)-2 {
			return nil, false
		}
		return []string{data[:2], data[2:]}, true
	case 6:
		n = nameAt(data)
		m := nameAt(data[n:])
		if n == 0 || m == 0 || len(data)-n-m != 20 {
			return nil, false
		}
		return []string{"", data[:n], "", data[n : n+m], data[n+m:]}, true
	case 16:
		rest := data
		for rest != "" && len(rest) > int(rest[0]) {
			rest = rest[1+int(rest[0]):]
		}
		return []string{data}, data != "" && rest == ""
	}
	return []string{data}, true
}

// checked tells what Check is to tell.
func checked(t int, data string) api.Errno {
	if t < 0 || t > 65535 {
		return api.ErrRange
	}
	if len(data) > 65535 {
		return api.ErrLong
	}
	if _, is := cut(t, data); !is {
		return api.ErrBytes
	}
	return api.OK
}

// lowered tells what Lower is to tell.
func lowered(t int, data string) string {
	if checked(t, data) != api.OK {
		return data
	}
	l, _ := cut(t, data)
	for i := 1; i < len(l); i += 2 {
		l[i] = name.Lower(l[i])
	}
	return strings.Join(l, "")
}

// holds holds one type's data by Check and Lower.
func holds(t *testing.T, kind int, data string) {
	t.Helper()
	if e, want := Check(kind, data), checked(kind, data); e != want {
		t.Fatalf("Check(%d, %q) = %v, not %v", kind, data, e, want)
	}
	if l, want := Lower(kind, data), lowered(kind, data); l != want {
		t.Fatalf("Lower(%d, %q) = %q, not %q", kind, data, l, want)
	}
}

// P6.1: the chapter's examples, one by one.
func TestCheckExamples(t *testing.T) {
	for _, c := range []struct {
		t    int
		data string
		want api.Errno
	}{
		{1, "\x01\x02\x03\x04", api.OK}, {1, "\x01\x02\x03\x04\x05", api.ErrBytes}, {2, "\x01a\x00", api.OK}, {16, "", api.ErrBytes}, {999, "", api.OK}, {-1, "", api.ErrRange},
	} {
		if e := Check(c.t, c.data); e != c.want {
			t.Errorf("Check(%d, %q) = %v, not %v", c.t, c.data, e, c.want)
		}
	}
}

// good is data of each type of the table, and of some that are not in it.
func good() map[int][]string {
	return map[int][]string{
		1:     {"\x01\x02\x03\x04", "\x00\x00\x00\x00", "\xff\xff\xff\xff", "ABCD", "\x01A\x00\x00"},
		28:    {strings.Repeat("\x00", 16), "ABCDEFGHIJKLMNOP", filler(16)},
		2:     {"\x00", named("a"), named("NS", "Example"), sized(255), named("\x00"), named("A\xc0\x00"), named(strings.Repeat("Z", 63))},
		5:     {"\x00", named("A", "b"), sized(254), strings.Repeat("\x01Q", 127) + "\x00"},
		12:    {"\x00", named("1", "in-addr", "ARPA"), sized(255)},
		15:    {"\x00\x05\x00", "AZ" + named("MX", "a"), "\x01a\x00", "\x00\x00" + sized(255), "\xc0\x00" + named("M")},
		6:     {"\x00\x00" + filler(20), named("A") + "\x00" + filler(20), "\x00" + named("B") + strings.Repeat("C", 20), named("NS", "a") + named("Host.Master", "a") + strings.Repeat("\x01A\x00\x00", 5), sized(255) + sized(255) + filler(20)},
		16:    {"\x00", "\x01A", "\x00\x00\x00", "\x03A\x00B", "\x01A\x00\x02BC", "\xff" + strings.Repeat("T", 255), "\xff" + strings.Repeat("T", 255) + "\xff" + strings.Repeat("U", 255) + "\x00"},
		0:     {"", "A", "\x00", named("A"), filler(300)},
		41:    {"", "\x00\x0a\x00\x08ABCDEFGH"},
		255:   {"", named("A", "B")},
		65535: {"", named("A", "B"), filler(65535)},
	}
}

// bad is bytes that are not the data of a type of the table.
func bad() map[int][]string {
	return map[int][]string{
		1:  {"", "A", "AB", "ABC", "ABCDE", "ABCDEFGH", filler(16), filler(65535)},
		28: {"", "ABCD", filler(15), filler(17), filler(32), filler(65535)},
		2:  {"", "A", "\x01", "\x01A", "\x00\x00", "\x01A\x00\x00", "\x01A\x00B", "\x02A\x00", "\xc0\x00", "\x01A\xc0\x00", "\x00\xc0\x00", "\x40" + strings.Repeat("A", 64) + "\x00", "\x80\x00", strings.Repeat("\x01A", 128) + "\x00", sized(256), filler(65535)},
		5:  {"", "A", "\x01A", "\x00\x00", "\x01A\x00\x01B\xc0\x00", sized(257)},
		12: {"", "\x01A", "\x00A", "\xc0\x0c", strings.Repeat("\x3f"+strings.Repeat("A", 63), 4) + "\x00"},
		15: {"", "A", "AB", "A\x00", "AB\x01C", "AB\x00\x00", "AB\x01C\x00D", "AB\xc0\x00", "\x01A\x00\x00", "AB" + sized(256), "\x01A\xc0\x00", filler(65535)},
		6:  {"", "\x00", "\x00\x00", "\x00\x00" + filler(19), "\x00\x00" + filler(21), "\x00\x00" + filler(16), "\x00" + filler(20), filler(20), filler(22), "\x00\x01A" + filler(20), "\x01A\x00\xc0\x00" + filler(20), "\x01A\x00\x01B\xc0\x00" + filler(20), "\xc0\x00\x00" + filler(20), sized(256) + "\x00" + filler(20), "\x00" + sized(256) + filler(20), "\x01A\x00" + filler(20), "\x01A\x00\x01B\x00\x01C\x00" + filler(20)},
		16: {"", "\x01", "\x02A", "A", "\x00\x01", "\x00\x02A", "\x01AB", "\x01A\x03BC", "\xff", "\xff" + strings.Repeat("A", 254), "\xff" + strings.Repeat("A", 255) + "\x01"},
	}
}

// P6.1: data of each type, and bytes that are not.
func TestCheckEachType(t *testing.T) {
	for kind, l := range good() {
		for _, data := range l {
			if e := Check(kind, data); e != api.OK {
				t.Errorf("Check(%d, %q) = %v", kind, data, e)
			}
			holds(t, kind, data)
		}
	}
	for kind, l := range bad() {
		for _, data := range l {
			if e := Check(kind, data); e != api.ErrBytes {
				t.Errorf("Check(%d, %q) = %v", kind, data, e)
			}
			holds(t, kind, data)
		}
	}
	// What is data of one type is held by all others, too.
	for _, all := range []map[int][]string{good(), bad()} {
		for _, l := range all {
			for _, data := range l {
				for _, kind := range append(append(append([]int{}, table...), others...), noType...) {
					holds(t, kind, data)
				}
			}
		}
	}
}

// P6.1: each number from 0 to 65,535 is a type, and no other one; all that are not in the table take any bytes.
func TestCheckAllTypes(t *testing.T) {
	for kind := -300; kind < 66000; kind++ {
		for _, data := range []string{"", "AAAA", "\x00", "\x01A\x00", "AA\x01A\x00", "\x00\x00ABCDEFGHIJKLMNOPQRST", "\x03ABC", "ABCDEFGHIJKLMNOP", "\xc0\x00"} {
			holds(t, kind, data)
		}
	}
	for _, kind := range noType {
		if e := Check(kind, "\x00"); e != api.ErrRange {
			t.Errorf("Check(%d, the root) = %v", kind, e)
		}
	}
	for _, kind := range others {
		for _, data := range []string{"", "\x00", "\xff\xff", "\x01A", "\x01A\x00", "\xc0\x00", filler(65535)} {
			if e := Check(kind, data); e != api.OK {
				t.Errorf("Check(%d, %d bytes) = %v", kind, len(data), e)
			}
		}
	}
}

// P6.1: 65,535 bytes may be, one more are too many, whatever they are; and the errors in their order.
func TestCheckLongest(t *testing.T) {
	texts := strings.Repeat("\xff"+strings.Repeat("T", 255), 255) + "\xfe" + strings.Repeat("U", 254)
	if len(texts) != 65535 {
		t.Fatal(len(texts))
	}
	for _, data := range []string{texts, strings.Repeat("\x00", 65535)} {
		if e, f := Check(16, data), Check(16, data+"\x00"); e != api.OK || f != api.ErrLong {
			t.Errorf("%v; with one more text %v", e, f)
		}
		holds(t, 16, data)
		holds(t, 16, data[:65534])
	}
	for _, size := range []int{65536, 65537, 1 << 17, 1 << 20} {
		for _, data := range []string{strings.Repeat("\x00", size), strings.Repeat("A", size), strings.Repeat("\x01A\x00\x00", size/4+1)} {
			for _, kind := range append(append([]int{}, table...), others...) {
				if e := Check(kind, data); e != api.ErrLong {
					t.Errorf("Check(%d, %d bytes) = %v", kind, len(data), e)
				}
				if l := Lower(kind, data); l != data {
					t.Errorf("Lower(%d, %d bytes) is another", kind, len(data))
				}
			}
			for _, kind := range noType {
				if e := Check(kind, data); e != api.ErrRange {
					t.Errorf("Check(%d, %d bytes) = %v", kind, len(data), e)
				}
			}
		}
	}
}

// P6.1: how many bytes there may be, one by one.
func TestCheckEachSize(t *testing.T) {
	for n := range 600 {
		for _, c := range []string{"\x00", "A", "\xff", "\x01"} {
			for _, kind := range append(append([]int{}, table...), 0, 999) {
				holds(t, kind, strings.Repeat(c, n))
				holds(t, kind, "\x00\x00"+strings.Repeat(c, n))
				holds(t, kind, "\x01A\x00\x01B\x00"+strings.Repeat(c, n))
				holds(t, kind, string([]byte{byte(n)})+strings.Repeat(c, n))
				holds(t, kind, string([]byte{0, byte(n)})+strings.Repeat(c, n))
			}
		}
		if n >= 1 && n != 2 && n < 300 {
			want := api.OK
			if n > 255 {
				want = api.ErrBytes
			}
			for kind, data := range map[int]string{2: sized(n), 5: sized(n), 12: sized(n), 15: "AB" + sized(n), 6: sized(n) + "\x00" + filler(20)} {
				if e := Check(kind, data); e != want {
					t.Errorf("Check(%d, a name of %d bytes) = %v", kind, n, e)
				}
			}
			if e := Check(6, "\x00"+sized(n)+filler(20)); e != want {
				t.Errorf("Check(6, the root and a name of %d bytes) = %v", n, e)
			}
		}
	}
}

// P6.1: all short data of letters that mean something, with and without what a SOA has behind its names.
func TestCheckEachShort(t *testing.T) {
	for _, w := range words("\x00\x01\x02A\xc0", 5) {
		for _, kind := range append(append([]int{}, table...), 0, 17) {
			holds(t, kind, w)
		}
		holds(t, 6, w+filler(20))
		holds(t, 6, w+filler(19))
		holds(t, 6, w+strings.Repeat("\x00", 20))
		holds(t, 6, w+"\x01A\x00"+filler(20))
		holds(t, 15, "\x01B"+w)
		holds(t, 16, "\x03"+w)
	}
	// Each byte, where a label or a text begins.
	for c := range 256 {
		b := string([]byte{byte(c)})
		for _, ahead := range []string{"", "\x01A", "\x00", "\x00\x05", "\x01A\x00"} {
			for _, behind := range []string{"", "\x00", strings.Repeat("B", c), strings.Repeat("B", c) + "\x00", strings.Repeat("\x00", c+1), "\x00" + filler(20), strings.Repeat("B", c) + "\x00" + filler(20)} {
				for _, kind := range table {
					holds(t, kind, ahead+b+behind)
				}
			}
		}
	}
}

// P6.1: Lower makes the names' letters low, and leaves everything but these as it is.
func TestLower(t *testing.T) {
	for _, c := range []struct {
		t          int
		data, want string
	}{
		{2, named("NS", "Example"), named("ns", "example")},
		{5, named("A-Z", "\xc1[@`{"), named("a-z", "\xc1[@`{")},
		{12, named("ABCDEFGHIJKLMNOPQRSTUVWXYZ"), named("abcdefghijklmnopqrstuvwxyz")},
		{15, "AZ" + named("AZ"), "AZ" + named("az")},
		{6, named("NS", "A") + named("Host", "A") + "ABCDEFGHIJKLMNOPQRST", named("ns", "a") + named("host", "a") + "ABCDEFGHIJKLMNOPQRST"},
		{6, "\x00\x00ABCDEFGHIJKLMNOPQRST", "\x00\x00ABCDEFGHIJKLMNOPQRST"},
		{1, "ABCD", "ABCD"}, {28, "ABCDEFGHIJKLMNOP", "ABCDEFGHIJKLMNOP"}, {16, "\x03ABC", "\x03ABC"}, {16, named("ABC"), named("ABC")}, {999, named("ABC"), named("ABC")}, {0, "ABC", "ABC"}, {65535, named("ABC"), named("ABC")},
		// 65 bytes are the length A, which no label has; as a text's length it is no letter.
		{16, "A" + strings.Repeat("B", 65), "A" + strings.Repeat("B", 65)}, {2, "A" + strings.Repeat("B", 65) + "\x00", "A" + strings.Repeat("B", 65) + "\x00"},
		{2, "ABC", "ABC"}, {2, named("ABC") + "D", named("ABC") + "D"}, {2, "\x01A\xc0\x00", "\x01A\xc0\x00"}, {5, "", ""}, {12, "\x01A", "\x01A"}, {15, "A", "A"}, {15, "AB\x02CD", "AB\x02CD"}, {6, named("A") + named("B") + "CDE", named("A") + named("B") + "CDE"}, {6, named("A"), named("A")}, {1, "ABC", "ABC"}, {16, "\x04ABC", "\x04ABC"},
		{-1, named("ABC"), named("ABC")}, {65536, named("ABC"), named("ABC")}, {65538, named("ABC"), named("ABC")}, {-1, "", ""},
	} {
		if l := Lower(c.t, c.data); l != c.want {
			t.Errorf("Lower(%d, %q) = %q, not %q", c.t, c.data, l, c.want)
		}
		if l := Lower(c.t, c.want); l != c.want {
			t.Errorf("Lower(%d, %q) = %q", c.t, c.want, l)
		}
	}
}

// P6.4: the chapter's examples, one by one.
func TestTellsExamples(t *testing.T) {
	if n, is := Target(15, "\x00\x05\x01a\x00"); n != "\x01a\x00" || !is {
		t.Errorf("%q, %v", n, is)
	}
	if a, is := Address(1, "\x00\x00\x01\x02"); a != 258 || !is {
		t.Errorf("%d, %v", a, is)
	}
	if l, is := Least(6, "\x00\x00"+strings.Repeat("\x07", 16)+"\x00\x00\x00\x09"); l != 9 || !is {
		t.Errorf("%d, %v", l, is)
	}
	for _, data := range []string{"ABCD", "\x00", named("A"), ""} {
		if n, is := Target(1, data); n != "" || is {
			t.Errorf("%q, %v", n, is)
		}
	}
}

// P6.4: of all data, of types that tell it and of those that do not, and of what is not their data.
func TestTellsEach(t *testing.T) {
	var all []string
	for _, m := range []map[int][]string{good(), bad()} {
		for _, l := range m {
			all = append(all, l...)
		}
	}
	all = append(all, words("\x00\x01A\xc0", 4)...)
	for _, data := range all {
		for _, kind := range append(append(append([]int{}, table...), others...), noType...) {
			l, _ := cut(kind, data)
			is := checked(kind, data) == api.OK
			wantName, target := "", is && (kind == 2 || kind == 5 || kind == 12 || kind == 15)
			if target {
				wantName = l[1]
			}
			if n, told := Target(kind, data); n != wantName || told != target {
				t.Errorf("Target(%d, %q) = %q, %v", kind, data, n, told)
			}
			wantAddress, address := 0, is && kind == 1
			if address {
				wantAddress = int(data[0])*16777216 + int(data[1])*65536 + int(data[2])*256 + int(data[3])
			}
			if a, told := Address(kind, data); a != wantAddress || told != address {
				t.Errorf("Address(%d, %q) = %d, %v", kind, data, a, told)
			}
			wantLeast, least := 0, is && kind == 6
			if least {
				b := data[len(data)-4:]
				if b[0] < 128 {
					wantLeast = int(b[0])*16777216 + int(b[1])*65536 + int(b[2])*256 + int(b[3])
				}
			}
			if n, told := Least(kind, data); n != wantLeast || told != least {
				t.Errorf("Least(%d, %q) = %d, %v", kind, data, n, told)
			}
		}
	}
}

// P6.4: a SOA's last four bytes about 2^31, and at 2^32 - 1; none of the sixteen ahead of them counts.
func TestLeastEdges(t *testing.T) {
	for _, c := range []struct {
		last string
		want int
	}{
		{"\x00\x00\x00\x00", 0}, {"\x00\x00\x00\x01", 1}, {"\x00\x00\x01\x00", 256}, {"\x00\x01\x00\x00", 65536}, {"\x01\x00\x00\x00", 16777216}, {"\x7f\xff\xff\xfe", 1<<31 - 2}, {"\x7f\xff\xff\xff", 1<<31 - 1},
		{"\x80\x00\x00\x00", 0}, {"\x80\x00\x00\x01", 0}, {"\x80\x00\x00\x09", 0}, {"\xff\xff\xff\xff", 0}, {"\xc0\x00\x00\x05", 0},
	} {
		for _, ahead := range []string{filler(16), strings.Repeat("\x00", 16), strings.Repeat("\x7f", 16)} {
			for _, names := range []string{"\x00\x00", named("a") + "\x00", "\x00" + named("a", "b"), sized(255) + sized(255)} {
				if n, is := Least(6, names+ahead+c.last); n != c.want || !is {
					t.Errorf("Least of %q = %d, %v, not %d", c.last, n, is, c.want)
				}
			}
		}
	}
	for a, data := range map[int]string{0: "\x00\x00\x00\x00", 1: "\x00\x00\x00\x01", 1<<31 - 1: "\x7f\xff\xff\xff", 1 << 31: "\x80\x00\x00\x00", 1<<32 - 1: "\xff\xff\xff\xff"} {
		if n, is := Address(1, data); n != a || !is {
			t.Errorf("Address of %q = %d, %v", data, n, is)
		}
	}
}

// Rule 4: what is told of data is none of their memory.
func TestTextsAreNew(t *testing.T) {
	for _, c := range []struct {
		t    int
		data string
	}{
		{1, "ABCD"}, {1, "ABC"}, {2, named("A", "B")}, {2, named("a", "b")}, {2, "a"}, {5, named("a")}, {12, named("a")}, {15, "ab" + named("a")}, {6, "\x00\x00abcdefghijklmnopqrst"}, {16, "\x01a"}, {999, "abc"}, {-1, "abc"},
	} {
		b := []byte(c.data)
		text := unsafe.String(&b[0], len(b))
		l := Lower(c.t, text)
		n, _ := Target(c.t, text)
		want, target := strings.Clone(l), strings.Clone(n)
		for i := range b {
			b[i] ^= 1
		}
		if l != want || n != target {
			t.Errorf("of %d, %q: %q, %q", c.t, c.data, l, n)
		}
	}
}
