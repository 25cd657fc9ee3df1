package rdata

import (
	"bytes"
	"math"
	"slices"
	"strings"
	"testing"

	"ostiary/api"
	"ostiary/sample"
	"ostiary/wire"
)

// readCase is a message, where in it data of a type stand, and what is to be read there.
type readCase struct {
	b           string
	at, size, t int
	want        string
	f           api.Fault
}

// wrong tells a fault.
func wrong(e api.Errno, at int) api.Fault { return api.Fault{Err: e, At: at} }

// bounds tells the faults that have nothing to do with which bytes there are.
func bounds(b []byte, at, size, kind int) api.Fault {
	switch {
	case kind < 0 || kind > 65535 || size < 0 || size > 65535:
		return wrong(api.ErrArg, 0)
	case at < 0 || at > len(b):
		return wrong(api.ErrRange, 0)
	case len(b)-at < size:
		return wrong(api.ErrBytes, len(b))
	}
	return api.Fault{}
}

// told tells what Read is to tell: how many bytes are ahead of names and behind them is told by the type.
func told(b []byte, at, size, kind int) (string, api.Fault) {
	if f := bounds(b, at, size, kind); f.Err != api.OK {
		return "", f
	}
	ahead, names, behind := 0, 0, 0
	switch kind {
	case 2, 5, 12:
		names = 1
	case 15:
		ahead, names = 2, 1
	case 6:
		names, behind = 2, 20
	default:
		data := string(b[at : at+size])
		if _, is := cut(kind, data); !is {
			return "", wrong(api.ErrBytes, at)
		}
		return data, api.Fault{}
	}
	place, end, data := at+ahead, at+size, ""
	for range names {
		if place >= end {
			return "", wrong(api.ErrBytes, at)
		}
		n, next, f := wire.Read(b, place)
		if f.Err != api.OK {
			return "", f
		}
		place, data = next, data+n
	}
	if place+behind != end {
		return "", wrong(api.ErrBytes, at)
	}
	return string(b[at:at+ahead]) + data + string(b[place:end]), api.Fault{}
}

// reads reads with and without spare room, whose bytes would go on with what is there; what was handed in has to stay as it was.
func reads(t *testing.T, c readCase) {
	t.Helper()
	for _, room := range []int{0, 1, 24, 300} {
		b := append([]byte(c.b), strings.Repeat("\x01a\x00", room)[:room]...)[:len(c.b)]
		was := slices.Clone(b[:cap(b)])
		if data, f := Read(b, c.at, c.size, c.t); data != c.want || f != c.f {
			t.Fatalf("Read(%q, %d, %d, %d) with room for %d = %q, %v, not %q, %v", c.b, c.at, c.size, c.t, room, data, f, c.want, c.f)
		}
		if !bytes.Equal(b[:cap(b)], was) {
			t.Fatalf("Read(%q, %d, %d, %d) changed it to %q", c.b, c.at, c.size, c.t, b[:cap(b)])
		}
	}
}

// readsAs reads, and holds what is read against what is told.
func readsAs(t *testing.T, b []byte, at, size, kind int) {
	t.Helper()
	want, g := told(b, at, size, kind)
	data, f := Read(b, at, size, kind)
	if data != want || f != g {
		t.Fatalf("Read(%q, %d, %d, %d) = %q, %v, not %q, %v", b, at, size, kind, data, f, want, g)
	}
	if f.Err == api.OK && Check(kind, data) != api.OK {
		t.Fatalf("Read(%q, %d, %d, %d) = %q, which is no such data", b, at, size, kind, data)
	}
}

// P6.2: the chapter's examples, one by one.
func TestReadExamples(t *testing.T) {
	for _, c := range []readCase{
		{"\x01a\x00\x00\x05\xc0\x00", 3, 4, 15, "\x00\x05\x01a\x00", api.Fault{}},
		{"\x01a\x00\x00\x05\xc0\x00", 3, 3, 15, "", wrong(api.ErrBytes, 3)},
		{"\x01a\x00\x09", 0, 4, 2, "", wrong(api.ErrBytes, 0)},
		{"\x01", 0, 2, 1, "", wrong(api.ErrBytes, 1)},
	} {
		reads(t, c)
	}
}

// P6.2: data of each type, wherever they stand, are read as they are.
func TestReadGood(t *testing.T) {
	for kind, l := range good() {
		for _, data := range l {
			for _, ahead := range []string{"", "\x00", "\x01a\x00", "\xc0\x00", filler(40)} {
				for _, behind := range []string{"", "\x00", "\xc0\x00", filler(40)} {
					reads(t, readCase{ahead + data + behind, len(ahead), len(data), kind, data, api.Fault{}})
				}
			}
		}
	}
}

// P6.2: names are made long, each of them, where they are told by pointers.
func TestReadLong(t *testing.T) {
	b := "\x01A\x01b\x00" // A.b. at 0, b. at 2, the root at 4
	soa := strings.Repeat("\xc0\x00", 10)
	for _, c := range []struct {
		t          int
		data, want string
	}{
		{2, "\xc0\x00", named("A", "b")}, {5, "\xc0\x02", named("b")}, {12, "\xc0\x04", "\x00"}, {2, "\x01c\xc0\x02", named("c", "b")}, {5, "\x01c\x01d\xc0\x00", named("c", "d", "A", "b")}, {12, "\x01b\xc0\x04", named("b")},
		{15, "\x00\x00\xc0\x00", "\x00\x00" + named("A", "b")}, {15, "\xc0\x02\xc0\x02", "\xc0\x02" + named("b")}, {15, "\x01c\x01d\xc0\x00", "\x01c" + named("d", "A", "b")},
		{6, "\xc0\x00\xc0\x02" + soa, named("A", "b") + named("b") + soa}, {6, "\x01c\xc0\x00\x00" + soa, named("c", "A", "b") + "\x00" + soa}, {6, "\x00\x01c\xc0\x02" + soa, "\x00" + named("c", "b") + soa}, {6, "\x01c\x00\x01d\xc0\x05" + soa, named("c") + named("d", "c") + soa}, {6, "\x01c\xc0\x00\xc0\x05" + soa, named("c", "A", "b") + named("c", "A", "b") + soa},
		// What looks like a name or a pointer is none in data of these types.
		{1, "\xc0\x00\xc0\x02", "\xc0\x00\xc0\x02"}, {28, strings.Repeat("\xc0\x00", 8), strings.Repeat("\xc0\x00", 8)}, {16, "\x02\xc0\x00", "\x02\xc0\x00"}, {999, "\xc0\x00", "\xc0\x00"}, {0, "\xc0\x02", "\xc0\x02"}, {3, "\x01c\xc0\x00", "\x01c\xc0\x00"}, {65535, "\xc0\x00", "\xc0\x00"},
	} {
		for _, behind := range []string{"", "\x00", filler(30)} {
			reads(t, readCase{b + c.data + behind, len(b), len(c.data), c.t, c.want, api.Fault{}})
		}
	}
	// Two names of 255 bytes each are told by four bytes: the data are the longest there are of such a type.
	n := sized(255)
	reads(t, readCase{n + "\xc0\x00\xc0\x00" + filler(20), 255, 24, 6, n + n + filler(20), api.Fault{}})
	// A pointer may lead into what is told ahead in the same data, or into its first bytes.
	reads(t, readCase{"\x01a\x00\xc0\x00" + filler(20), 0, 25, 6, named("a") + named("a") + filler(20), api.Fault{}})
	reads(t, readCase{"\x00\x05\xc0\x00", 0, 4, 15, "\x00\x05\x00", api.Fault{}})
	reads(t, readCase{"\x01a\x01b\xc0\x01", 0, 6, 15, "", wrong(api.ErrBytes, 1)})
}

// P6.2: of a name that stands in the data the fault is that of wire.Read of the whole message, at its place.
func TestReadNames(t *testing.T) {
	for _, c := range []readCase{
		// A length that is none.
		{"\x40", 0, 1, 2, "", wrong(api.ErrBytes, 0)}, {"\x01a\x80\x00", 0, 4, 5, "", wrong(api.ErrBytes, 2)}, {"xx\x01a\xbf\x00", 2, 4, 12, "", wrong(api.ErrBytes, 4)}, {"\x00\x05\x50\x00", 0, 4, 15, "", wrong(api.ErrBytes, 2)}, {"\x00\x60" + filler(20), 0, 22, 6, "", wrong(api.ErrBytes, 1)},
		// What is not all there, told at the end of the message, not of the data.
		{"\x02a", 0, 2, 2, "", wrong(api.ErrBytes, 2)}, {"\x01a", 0, 2, 2, "", wrong(api.ErrBytes, 2)}, {"xx\x3faaa", 2, 4, 5, "", wrong(api.ErrBytes, 6)}, {"\xc0", 0, 1, 12, "", wrong(api.ErrBytes, 1)}, {"\x00\x05\x05", 0, 3, 15, "", wrong(api.ErrBytes, 3)}, {"\x01a\x00\x01b", 0, 5, 6, "", wrong(api.ErrBytes, 5)}, {"\x02a\x00", 0, 2, 2, "", wrong(api.ErrBytes, 3)}, {"\x03ab\x00zz", 0, 2, 2, "", wrong(api.ErrBytes, 4)},
		// Pointers that lead to their own part, or ahead.
		{"\xc0\x00", 0, 2, 2, "", wrong(api.ErrLoop, 0)}, {"\x01a\xc0\x00", 0, 4, 5, "", wrong(api.ErrLoop, 2)}, {"\x00\xc0\x05\x00", 1, 2, 12, "", wrong(api.ErrLoop, 1)}, {"\x00\x05\xc0\x02", 0, 4, 15, "", wrong(api.ErrLoop, 2)}, {"\x00\x05\x01a\xc0\x02", 0, 6, 15, "", wrong(api.ErrLoop, 4)}, {"\x00\x01a\xc0\x01" + filler(20), 0, 25, 6, "", wrong(api.ErrLoop, 3)}, {"\xc0\x00\x00" + filler(20), 0, 23, 6, "", wrong(api.ErrLoop, 0)}, {"\xff\xff", 0, 2, 2, "", wrong(api.ErrLoop, 0)},
		// Parts that stand ahead of the data.
		{"\x40\x00\xc0\x00", 2, 2, 2, "", wrong(api.ErrBytes, 0)}, {"\xc0\x00\xc0\x00", 2, 2, 5, "", wrong(api.ErrLoop, 0)}, {"\x01a\xc0\x02", 2, 2, 2, "", wrong(api.ErrLoop, 2)},
		// Names that are too long, told at their first byte.
		{sized(253) + "\x02bc\xc0\x00", 253, 5, 2, "", wrong(api.ErrLong, 253)}, {"\x00\x05" + sized(256), 0, 258, 15, "", wrong(api.ErrLong, 2)}, {sized(255) + "\x01b\xc0\x00", 255, 4, 5, "", wrong(api.ErrLong, 255)}, {"\x01a\x00" + sized(256) + filler(20), 0, 279, 6, "", wrong(api.ErrLong, 3)}, {sized(256) + "\x00" + filler(20), 0, 277, 6, "", wrong(api.ErrLong, 0)},
		// The fault is behind the data, as the name goes on there.
		{"\x01a\x40", 0, 2, 2, "", wrong(api.ErrBytes, 2)}, {"\x01a\xc0\x00", 0, 2, 2, "", wrong(api.ErrLoop, 2)}, {"\x01a\xc0\x00", 0, 3, 2, "", wrong(api.ErrLoop, 2)}, {"\x00\x05\x01a\xc0\x02", 0, 3, 15, "", wrong(api.ErrLoop, 4)}, {sized(256), 0, 10, 12, "", wrong(api.ErrLong, 0)}, {"\x00\x01a", 0, 2, 6, "", wrong(api.ErrBytes, 3)},
		// The fault is ahead of bytes that are left, or too few.
		{"\xc0\x00\x00\x00", 0, 4, 2, "", wrong(api.ErrLoop, 0)}, {"\x00\xc0\x01" + filler(19), 0, 22, 6, "", wrong(api.ErrLoop, 1)}, {"\x00\xc0\x01", 0, 3, 6, "", wrong(api.ErrLoop, 1)},
	} {
		reads(t, c)
	}
}

// P6.2: bytes that are not just the data of their type are told where they begin.
func TestReadBad(t *testing.T) {
	for kind, l := range bad() {
		for _, data := range l {
			for _, ahead := range []string{"", "\x00", "\x01a\x00", filler(5)} {
				b := ahead + data
				want, f := told([]byte(b), len(ahead), len(data), kind)
				if len(b) < 70000 && !strings.Contains(data, "\xc0") && f.Err == api.OK {
					t.Fatalf("%d, %q: %q is told", kind, b, want)
				}
				reads(t, readCase{b, len(ahead), len(data), kind, want, f})
			}
		}
	}
	for _, c := range []readCase{
		{"abcde", 1, 3, 1, "", wrong(api.ErrBytes, 1)}, {"abcdef", 1, 5, 1, "", wrong(api.ErrBytes, 1)}, {"abcdef", 1, 0, 1, "", wrong(api.ErrBytes, 1)}, {filler(20), 2, 15, 28, "", wrong(api.ErrBytes, 2)}, {filler(20), 3, 17, 28, "", wrong(api.ErrBytes, 3)}, {"abcd", 0, 4, 28, "", wrong(api.ErrBytes, 0)},
		// A name ends behind the data, with what is behind them, or would begin there.
		{"zz\x01a\x00", 2, 2, 2, "", wrong(api.ErrBytes, 2)}, {"zz\x01a\x00", 2, 1, 5, "", wrong(api.ErrBytes, 2)}, {"zz\x01a\x00", 2, 0, 12, "", wrong(api.ErrBytes, 2)}, {"\x00\x05\x01a\x00", 0, 4, 15, "", wrong(api.ErrBytes, 0)}, {"\x00\x05\x01a\x00", 0, 3, 15, "", wrong(api.ErrBytes, 0)}, {"\x00\x05\x00", 0, 2, 15, "", wrong(api.ErrBytes, 0)}, {"\x00\x05\x00", 0, 1, 15, "", wrong(api.ErrBytes, 0)}, {"\x00\x05\x00", 0, 0, 15, "", wrong(api.ErrBytes, 0)}, {"\x01a\x00\xc0\x00", 3, 1, 2, "", wrong(api.ErrBytes, 3)}, {"\x00\x00" + filler(20), 0, 1, 6, "", wrong(api.ErrBytes, 0)}, {"\x00\x01a\x00" + filler(20), 0, 3, 6, "", wrong(api.ErrBytes, 0)},
		// What is behind a name ends behind the data.
		{"z\x00\x00" + filler(30), 1, 21, 6, "", wrong(api.ErrBytes, 1)}, {"z\x00\x00" + filler(30), 1, 2, 6, "", wrong(api.ErrBytes, 1)}, {"z\x00\x00" + filler(30), 1, 22, 6, "\x00\x00" + filler(20), api.Fault{}}, {"z\x00\x00" + filler(30), 1, 23, 6, "", wrong(api.ErrBytes, 1)},
		// Bytes are left.
		{"z\x00z", 1, 2, 2, "", wrong(api.ErrBytes, 1)}, {"z\x00\x00", 1, 2, 5, "", wrong(api.ErrBytes, 1)}, {"z\x00\x05\x00\x00", 1, 4, 15, "", wrong(api.ErrBytes, 1)}, {"\x00\xc0\x00\x00", 1, 3, 12, "", wrong(api.ErrBytes, 1)},
		// Texts.
		{"z\x00", 2, 0, 16, "", wrong(api.ErrBytes, 2)}, {"z\x00", 1, 0, 16, "", wrong(api.ErrBytes, 1)}, {"z\x01a", 1, 1, 16, "", wrong(api.ErrBytes, 1)}, {"z\x01a", 1, 2, 16, "\x01a", api.Fault{}}, {"z\x01a\x02bc", 1, 3, 16, "", wrong(api.ErrBytes, 1)}, {"z\x01a\x02bc", 1, 4, 16, "", wrong(api.ErrBytes, 1)}, {"z\x01a\x02bc", 1, 5, 16, "\x01a\x02bc", api.Fault{}}, {"\xff" + filler(255), 0, 255, 16, "", wrong(api.ErrBytes, 0)}, {"\xff" + filler(255), 0, 256, 16, "\xff" + filler(255), api.Fault{}},
	} {
		reads(t, c)
	}
}

// P6.2: a name of which no byte is left does not stand in the data: whatever is behind them, the fault is theirs.
func TestReadNoByteOfAName(t *testing.T) {
	for _, behind := range []string{"", "\x00", "\x40", "\xc0", "\xc0\x00", "\xc0\xff", "\x05a", "\x01a\x00", sized(256)} {
		for _, ahead := range []string{"", "\x01a\x00"} {
			for kind, data := range map[int]string{2: "", 5: "", 12: "", 15: "\x00\x05", 6: "\x00"} {
				reads(t, readCase{ahead + data + behind, len(ahead), len(data), kind, "", wrong(api.ErrBytes, len(ahead))})
			}
			reads(t, readCase{ahead + "\x00" + behind, len(ahead), 1, 15, "", wrong(api.ErrBytes, len(ahead))})
		}
	}
}

// P6.2: the bounds of types, sizes and places, each error ahead of those that the promise names behind it.
func TestReadBounds(t *testing.T) {
	big := []byte(strings.Repeat("\x00", 70000))
	for _, b := range [][]byte{nil, {}, {0}, []byte("\x01a\x00"), []byte("abcd"), big} {
		for _, at := range []int{math.MinInt, -65536, -1, 0, 1, 2, 3, 4, 5, len(b) - 1, len(b), len(b) + 1, 1 << 32, math.MaxInt} {
			for _, size := range []int{math.MinInt, -1 << 32, -1, 0, 1, 3, 4, 5, 65534, 65535, 65536, 65537, 1 << 32, 1<<32 + 4, math.MaxInt} {
				for _, kind := range append([]int{0, 1, 2, 6, 15, 16, 999, 65534, 65535}, noType...) {
					want := bounds(b, at, size, kind)
					data, f := Read(b, at, size, kind)
					if want.Err != api.OK && (data != "" || f != want) {
						t.Fatalf("Read(%d bytes, %d, %d, %d) = %q, %v, not %v", len(b), at, size, kind, data, f, want)
					}
					if want.Err == api.OK {
						readsAs(t, b, at, size, kind)
					}
				}
			}
		}
	}
	for _, c := range []readCase{
		{"", 0, 0, -1, "", wrong(api.ErrArg, 0)}, {"", 0, 0, 65536, "", wrong(api.ErrArg, 0)}, {"", 0, -1, 0, "", wrong(api.ErrArg, 0)}, {"", 0, 65536, 0, "", wrong(api.ErrArg, 0)}, {"", 0, 0, 0, "", api.Fault{}}, {"", 0, 0, 65535, "", api.Fault{}}, {"", 0, 65535, 0, "", wrong(api.ErrBytes, 0)}, {"", 5, 65536, 0, "", wrong(api.ErrArg, 0)}, {"", -1, 0, 70000, "", wrong(api.ErrArg, 0)}, {"abc", 7, -1, 2, "", wrong(api.ErrArg, 0)},
		{"abc", 4, 0, 0, "", wrong(api.ErrRange, 0)}, {"abc", -1, 0, 2, "", wrong(api.ErrRange, 0)}, {"abc", 4, 9, 1, "", wrong(api.ErrRange, 0)}, {"abc", 3, 0, 0, "", api.Fault{}}, {"abc", 3, 1, 0, "", wrong(api.ErrBytes, 3)}, {"abc", 2, 2, 2, "", wrong(api.ErrBytes, 3)}, {"\xc0\x00", 0, 3, 2, "", wrong(api.ErrBytes, 2)}, {"abc", 0, 4, 1, "", wrong(api.ErrBytes, 3)}, {"abc", 3, 0, 2, "", wrong(api.ErrBytes, 3)},
	} {
		reads(t, c)
	}
	if data, f := Read(big, 100, 65535, 999); data != string(big[:65535]) || f != (api.Fault{}) {
		t.Error(len(data), f)
	}
	if data, f := Read(big, 100, 65535, 16); data != string(big[:65535]) || f != (api.Fault{}) {
		t.Error(len(data), f)
	}
	if data, f := Read(big, 4466, 65535, 999); data != "" || f != wrong(api.ErrBytes, 70000) {
		t.Error(len(data), f)
	}
}

// P6.2: at each place and of each size of all short messages of letters that mean something.
func TestReadEachShort(t *testing.T) {
	for _, w := range words("\x00\x01a\xc0", 6) {
		b := []byte(w)
		for at := 0; at <= len(b); at++ {
			for size := 0; at+size <= len(b)+1; size++ {
				for _, kind := range []int{1, 2, 15, 6, 16, 999} {
					readsAs(t, b, at, size, kind)
				}
			}
		}
	}
	for _, w := range words("\x00\x01a\xc0", 5) {
		b := []byte(w + strings.Repeat("\x00\x01", 12))
		for at := range 3 {
			for size := 18; at+size <= len(b)+1; size++ {
				readsAs(t, b, at, size, 6)
			}
		}
	}
}

// P6.2: of random messages, in which names are often told by pointers, at each place.
func TestReadRandom(t *testing.T) {
	s := sample.New()
	good := 0
	for range 3000 {
		var b []byte
		for len(b) < 60 {
			switch s.Below(8) {
			case 0:
				b = append(b, s.Bytes(1+s.Below(20))...)
			case 1, 2:
				b = append(b, 192, byte(s.Below(len(b)+1)))
			case 3:
				b = append(b, 0)
			default:
				b = append(b, "\x01b\x02cd\x01\x00"[:2+s.Below(6)]...)
			}
		}
		for range 100 {
			at, size := s.Below(len(b)), s.Below(40)
			kind := []int{1, 2, 5, 6, 12, 15, 16, 28, 999}[s.Below(9)]
			readsAs(t, b, at, size, kind)
			if _, f := told(b, at, size, kind); f.Err == api.OK {
				good++
			}
		}
	}
	if good < 1000 {
		t.Errorf("only %d are data", good)
	}
}
