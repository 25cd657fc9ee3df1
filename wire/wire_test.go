package wire

import (
	"bytes"
	"math"
	"slices"
	"strings"
	"testing"

	"ostiary/api"
	"ostiary/name"
	"ostiary/sample"
)

var named, words = sample.Named, sample.Words

// sized tells labels that have so many bytes, each with its length; there are none of 1.
func sized(size int) string {
	l := ""
	for size > 0 {
		take := min(size, 64)
		if size-take == 1 {
			take--
		}
		l += string([]byte{byte(take - 1)}) + strings.Repeat("x", take-1)
		size -= take
	}
	return l
}

// roomy tells bytes behind which there is spare room, full of lengths, letters and noughts.
func roomy(b string, room int) []byte {
	return append([]byte(b), strings.Repeat("\x01a\x00", room)[:room]...)[:len(b)]
}

// whole tells bytes with their spare room.
func whole(b []byte) []byte { return b[:cap(b)] }

// place tells a pointer to a place.
func place(to int) string { return string([]byte{byte(192 + to/256), byte(to % 256)}) }

// reading is what Read tells.
type reading struct {
	n    string
	next int
	f    api.Fault
}

func read(b []byte, at int) reading {
	n, next, f := Read(b, at)
	return reading{n, next, f}
}

func wrong(e api.Errno, at int) reading { return reading{f: api.Fault{Err: e, At: at}} }

// told tells what is to be read at a place, each label and each part by a call of its own.
func told(b []byte, at int) reading {
	if at < 0 || at > len(b) {
		return wrong(api.ErrRange, 0)
	}
	return toldFrom(b, at, at, at, "")
}

// toldFrom tells it from a byte of the part on that begins at part, behind labels that were told.
func toldFrom(b []byte, first, part, from int, labels string) reading {
	rest := b[from:]
	if len(rest) == 0 {
		return wrong(api.ErrBytes, len(b))
	}
	size := int(rest[0])
	switch {
	case size == 0:
		return reading{n: labels + "\x00", next: from + 1}
	case size >= 192 && len(rest) == 1:
		return wrong(api.ErrBytes, len(b))
	case size >= 192:
		to := (size-192)*256 + int(rest[1])
		if to >= part {
			return wrong(api.ErrLoop, from)
		}
		r := toldFrom(b, first, to, to, labels)
		if r.f.Err == api.OK {
			r.next = from + 2
		}
		return r
	case size >= 64:
		return wrong(api.ErrBytes, from)
	case size >= len(rest):
		return wrong(api.ErrBytes, len(b))
	}
	labels += string(rest[:size+1])
	if len(labels) > 254 {
		return wrong(api.ErrLong, first)
	}
	return toldFrom(b, first, part, from+size+1, labels)
}

// readCase is bytes, a place, and what is to be read there.
type readCase struct {
	b    string
	at   int
	want reading
}

// check reads with and without spare room, and what was handed in has to stay as it was.
func check(t *testing.T, c readCase) {
	t.Helper()
	for _, room := range []int{0, 1, 2, 300} {
		b := roomy(c.b, room)
		ahead := slices.Clone(whole(b))
		if got := read(b, c.at); got != c.want {
			t.Fatalf("Read(%q, %d) with room for %d = %q, %d, %v, not %q, %d, %v", c.b, c.at, room, got.n, got.next, got.f, c.want.n, c.want.next, c.want.f)
		}
		if !bytes.Equal(whole(b), ahead) {
			t.Fatalf("Read(%q, %d) with room for %d changed it to %q", c.b, c.at, room, whole(b))
		}
	}
}

// P5.1: the chapter's examples, one by one.
func TestReadExamples(t *testing.T) {
	for _, c := range []readCase{
		{"\x01a\x00\x01b\xc0\x00", 3, reading{n: "\x01b\x01a\x00", next: 7}},
		{"\xc0\x00", 0, wrong(api.ErrLoop, 0)},
		{"\x01a\xc0\x00", 0, wrong(api.ErrLoop, 2)},
		{"\x40", 0, wrong(api.ErrBytes, 0)},
		{"\x02a", 0, wrong(api.ErrBytes, 2)},
		{"", 1, wrong(api.ErrRange, 0)},
	} {
		check(t, c)
	}
}

// P5.1: all short bytes of lengths, letters and pointers, at each place, with and without spare room, against the second reading.
func TestReadEachShort(t *testing.T) {
	for _, x := range []struct {
		letters string
		most    int
	}{{"\x00\x01\x02\x03\x04\x3f\x40\xbf\xc0\xc1\xff", 4}, {"\x00\x01\x02\x04\xc0a", 6}, {"\x00\x01\x02\xc0", 8}} {
		for _, w := range words(x.letters, x.most) {
			for _, room := range []int{0, 5} {
				b := roomy(w, room)
				for at := -2; at <= len(b)+6; at++ {
					if got, want := read(b, at), told(b, at); got != want {
						t.Fatalf("Read(%q, %d) with room for %d = %q, %d, %v, not %q, %d, %v", w, at, room, got.n, got.next, got.f, want.n, want.next, want.f)
					}
				}
			}
		}
	}
}

// P5.1: a place that is none is told at 0, however far it is; the end of the bytes is one, where nothing stands.
func TestReadPlaces(t *testing.T) {
	for _, b := range []string{"", "\x00", "\x01a\x00", "\x01", "\xc0", "\x40", strings.Repeat("\x00", 70000)} {
		for _, at := range []int{math.MinInt, math.MinInt + 1, -1 << 32, -len(b) - 1, -len(b), -2, -1, len(b) + 1, len(b) + 2, len(b) + 300, 1 << 32, math.MaxInt - 1, math.MaxInt} {
			if at < 0 || at > len(b) {
				check(t, readCase{b, at, wrong(api.ErrRange, 0)})
			}
		}
		check(t, readCase{b, len(b), wrong(api.ErrBytes, len(b))})
	}
	for _, none := range [][]byte{nil, {}} {
		for at, want := range map[int]reading{-1: wrong(api.ErrRange, 0), 0: wrong(api.ErrBytes, 0), 1: wrong(api.ErrRange, 0)} {
			if got := read(none, at); got != want {
				t.Errorf("Read of none at %d = %v", at, got)
			}
		}
	}
}

// P5.1: each byte as a length: up to 63 of a label, which has to be all there, and what has to be behind it, too; from 64 to 191 of nothing.
func TestReadEachLength(t *testing.T) {
	for size := 1; size < 192; size++ {
		label := string([]byte{byte(size)}) + strings.Repeat("x", size)
		for _, b := range []string{"\x00\x00" + label, "\x00\x00" + label[:size], "\x00\x00" + label[:1], "\x00\x00" + label[:1+size/2]} {
			want := wrong(api.ErrBytes, len(b))
			if size > 63 {
				want = wrong(api.ErrBytes, 2)
			}
			check(t, readCase{b, 2, want})
		}
		for _, end := range []string{"\x00", place(0), place(1)} {
			b := "\x00\x00" + label + end
			want := reading{n: label + "\x00", next: len(b)}
			if size > 63 {
				want = wrong(api.ErrBytes, 2)
			}
			check(t, readCase{b, 2, want})
			check(t, readCase{b + "\x00\x40", 2, want})
		}
		// Behind a label, and in a second part.
		b := "\x00\x01a" + label + place(0) + "\x01b" + place(3)
		one, two := reading{n: "\x01a" + label + "\x00", next: 3 + len(label) + 2}, reading{n: "\x01b" + label + "\x00", next: len(b)}
		if size > 63 {
			one, two = wrong(api.ErrBytes, 3), wrong(api.ErrBytes, 3)
		}
		check(t, readCase{b, 1, one})
		check(t, readCase{b, len(b) - 4, two})
	}
	check(t, readCase{"\x00\x00\x00", 2, reading{n: "\x00", next: 3}})
}

// P5.1: each byte may stand in a label, also what would be a pointer or a length elsewhere.
func TestReadEachByte(t *testing.T) {
	for c := range 256 {
		l := string([]byte{2, byte(c), byte(c)})
		check(t, readCase{l + l + "\x00", 0, reading{n: l + l + "\x00", next: 7}})
		check(t, readCase{l + "\x00" + l + "\xc0\x00", 4, reading{n: l + l + "\x00", next: 9}})
	}
}

// P5.1: labels of up to 254 bytes are a name, those of more too long, in one part or in two, cut wherever labels end.
func TestReadLimits(t *testing.T) {
	for _, size := range []int{253, 254, 255, 256, 257} {
		for ahead := 0; ahead <= size; ahead++ {
			if ahead == 1 || size-ahead == 1 {
				continue
			}
			n := sized(ahead) + sized(size-ahead) + "\x00"
			want := reading{n: n, next: 3 + len(n)}
			cut := reading{n: n, next: 3 + size - ahead + 1 + ahead + 2}
			if size > 254 {
				want, cut = wrong(api.ErrLong, 3), wrong(api.ErrLong, 3+size-ahead+1)
			}
			check(t, readCase{"abc" + n + "\x00", 3, want})
			check(t, readCase{"abc" + sized(size-ahead) + "\x00" + sized(ahead) + place(3) + "\x00", 3 + size - ahead + 1, cut})
		}
	}
	for count := 126; count <= 129; count++ {
		n := strings.Repeat("\x01a", count) + "\x00"
		want := reading{n: n, next: 1 + len(n)}
		if count > 127 {
			want = wrong(api.ErrLong, 1)
		}
		check(t, readCase{"\x00" + n, 1, want})
	}
	check(t, readCase{"\x00" + strings.Repeat("\x01a", 1<<18), 1, wrong(api.ErrLong, 1)})
}

// P5.1: byte by byte: of labels that are too long that is told ahead of what is wrong behind them, and behind what is wrong ahead of it, and in a label of which not all is there.
func TestReadOrder(t *testing.T) {
	most, more := sized(254), sized(255)
	for _, behind := range []string{"", "\x00", "\x40", "\xbf", "\xc0", "\xc0\x02", "\xff\xff", "\x02", "\x02a", "\x3f" + strings.Repeat("x", 63)} {
		check(t, readCase{"ab" + more + behind, 2, wrong(api.ErrLong, 2)})
	}
	for _, x := range []struct {
		behind string
		want   reading
	}{
		{"", wrong(api.ErrBytes, 256)}, {"\x40", wrong(api.ErrBytes, 256)}, {"\xbf\x00", wrong(api.ErrBytes, 256)}, {"\xc0", wrong(api.ErrBytes, 257)}, {"\xc0\x02", wrong(api.ErrLoop, 256)}, {"\xff\xff", wrong(api.ErrLoop, 256)},
		{"\x01", wrong(api.ErrBytes, 257)}, {"\x02a", wrong(api.ErrBytes, 258)}, {"\x3f" + strings.Repeat("x", 62), wrong(api.ErrBytes, 319)}, {"\x3f" + strings.Repeat("x", 63), wrong(api.ErrLong, 2)}, {"\x01a", wrong(api.ErrLong, 2)}, {"\x01a\x40", wrong(api.ErrLong, 2)},
		{"\x00", reading{n: most + "\x00", next: 257}}, {"\xc0\x00", reading{n: most + "\x00", next: 258}}, {"\xc0\x01", wrong(api.ErrBytes, 1)},
	} {
		check(t, readCase{"\x00\x40" + most + x.behind, 2, x.want})
	}
	// Two labels that are too long only together, the second in a part of its own: the first part's place is told.
	b := sized(200) + "\x00" + sized(55) + "\xc0\x00"
	check(t, readCase{b, 201, wrong(api.ErrLong, 201)})
	check(t, readCase{b + place(201), len(b), wrong(api.ErrLong, len(b))})
	// A wrong length, a loop or an end comes ahead of labels that are too long, if these stand behind it.
	check(t, readCase{"\x00\x01a\x40" + more, 1, wrong(api.ErrBytes, 3)})
	check(t, readCase{"\x00\x01a\xc0\x01" + more, 1, wrong(api.ErrLoop, 3)})
}

// P5.1: a pointer leads to a place ahead of its own part's first byte alone: neither to that, nor to itself, nor between them, nor behind, nor outside.
func TestReadPointers(t *testing.T) {
	b := strings.Repeat("\x00", 300)
	for _, first := range []int{0, 1, 2, 255, 256, 257, 299} {
		for labels, size := range map[string]int{"": 0, "\x01a": 2, "\x02ab\x01c": 5} {
			for to := range 320 {
				want := wrong(api.ErrLoop, first+size)
				if to < first {
					want = reading{n: labels + "\x00", next: first + size + 2}
				}
				check(t, readCase{b[:first] + labels + place(to) + b, first, want})
			}
		}
	}
	for _, to := range []string{"\xff\xff", "\xff\x00", "\xc1\x00", "\xe0\x00", "\xd0\x00"} {
		check(t, readCase{"\x00\x01a" + to, 1, wrong(api.ErrLoop, 3)})
	}
}

// P5.1: a pointer of which one byte is there is told at the end, whatever it would be, in the first part and in one behind it.
func TestReadHalfPointer(t *testing.T) {
	for c := 192; c < 256; c++ {
		half := string([]byte{byte(c)})
		check(t, readCase{half, 0, wrong(api.ErrBytes, 1)})
		check(t, readCase{"\x00\x01a" + half, 1, wrong(api.ErrBytes, 4)})
	}
}

// P5.1: the second part's bounds are its own: what leads on has to lead ahead of where it began, and its faults are told at their places.
func TestReadSecondPart(t *testing.T) {
	for _, c := range []readCase{
		{"\x00\x01a\xc0\x00\x01b\xc0\x01", 5, reading{n: "\x01b\x01a\x00", next: 9}},
		{"\x00\x01a\xc0\x01\x01b\xc0\x01", 5, wrong(api.ErrLoop, 3)},
		{"\x00\x01a\xc0\x02\x01b\xc0\x01", 5, wrong(api.ErrLoop, 3)},
		{"\x00\x01a\xc0\x03\x01b\xc0\x01", 5, wrong(api.ErrLoop, 3)},
		{"\x00\x01a\xc0\x05\x01b\xc0\x01", 5, wrong(api.ErrLoop, 3)},
		{"\xc0\x02\xc0\x00", 2, wrong(api.ErrLoop, 0)},
		{"\xc0\x00\xc0\x00", 2, wrong(api.ErrLoop, 0)},
		{"\x00\x40\xc0\x01", 2, wrong(api.ErrBytes, 1)},
		{"\x01a\x41\x01b\xc0\x00", 3, wrong(api.ErrBytes, 2)},
		{"\x00\x01a\x05b\xc0\x03", 5, wrong(api.ErrBytes, 7)},
		// A part runs into the one that led to it: its labels, and where it ends, are its own.
		{"\x02\x01a\xc0\x00", 3, wrong(api.ErrLoop, 3)},
		{"\x00\x03\x01a\xc0\x01", 4, wrong(api.ErrBytes, 6)},
		{"\x00\x03\x01a\xc0\x01\x00", 4, wrong(api.ErrBytes, 7)},
		{"\x00\x03\x01a\xc0\x01\x00\x00", 4, reading{n: "\x03\x01a\xc0\x01\x00\x00", next: 6}},
	} {
		check(t, c)
	}
}

// P5.1: parts in a row are read each as it stands, and the name ends where its first part does.
func TestReadParts(t *testing.T) {
	b, n := "\x00", "\x00"
	for i := range 127 {
		c := string([]byte{1, byte(i)})
		last := 0
		if i > 0 {
			last = len(b) - 4
		}
		at := len(b)
		b, n = b+c+place(last), c+n
		check(t, readCase{b, at, reading{n: n, next: at + 4}})
		check(t, readCase{b + "\x01z\x00", at, reading{n: n, next: at + 4}})
	}
	check(t, readCase{b + "\x01z" + place(len(b)-4), len(b), wrong(api.ErrLong, len(b))})
}

// P5.1, P5.5: pointers alone lead on however many there are, and as far as fourteen bits tell.
func TestReadManyPointers(t *testing.T) {
	b := []byte{0, 0}
	for at := 2; at < 1<<14; at += 2 {
		b = append(b, place(at-2)...)
	}
	b = append(b, place(1<<14-2)...)
	b = append(b, "\x01a"+place(1<<14-2)...)
	for at := 0; at < 1<<14; at += 2 {
		next := at + 2
		if at == 0 {
			next = 1
		}
		if got, want := read(b, at), (reading{n: "\x00", next: next}); got != want {
			t.Fatalf("at %d: %v", at, got)
		}
	}
	for at, want := range map[int]reading{1: {n: "\x00", next: 2}, 1 << 14: {n: "\x00", next: 1<<14 + 2}, 1<<14 + 2: {n: "\x01a\x00", next: 1<<14 + 6}} {
		if got := read(b, at); got != want {
			t.Errorf("at %d: %v, not %v", at, got, want)
		}
	}
	far := append(bytes.Repeat([]byte{7}, 70000), "\x01a\x00\x01b"+place(0)...)
	copy(far, "\x01c\x00")
	copy(far[1<<14-1:], "\x01d\x00")
	far = append(far, place(1<<14-1)...)
	for at, want := range map[int]reading{70000: {n: "\x01a\x00", next: 70003}, 70003: {n: "\x01b\x01c\x00", next: 70007}, 70007: {n: "\x01d\x00", next: 70009}} {
		if got := read(far, at); got != want {
			t.Errorf("at %d: %v", at, got)
		}
	}
}

// P5.5: at each place of any bytes Read ends; what it tells is a name, and beside a fault nothing is told, which lies in the bytes.
func TestReadAnything(t *testing.T) {
	const letters = "\x00\x00\x01\x01\x01\x02\x02\x03\x04\x3f\x40\xc0\xc0\xc0\xc0\xc1\xff"
	s := sample.New()
	names := 0
	for range 3000 {
		b := make([]byte, s.Below(600))
		for i := range b {
			b[i] = letters[s.Below(len(letters))]
			if s.Below(3) == 0 {
				b[i] = byte(s.Below(256))
			}
		}
		for at := range len(b) + 1 {
			got := read(b, at)
			if want := told(b, at); got != want {
				t.Fatalf("Read(%q, %d) = %v, not %v", b, at, got, want)
			}
			if got.f.Err == api.OK {
				names++
			}
			if good := got.f.Err == api.OK; good && (name.Check(got.n) != api.OK || got.f.At != 0 || got.next <= at || got.next > len(b)) || !good && (got.n != "" || got.next != 0 || got.f.At < 0 || got.f.At > len(b)) {
				t.Fatalf("Read(%q, %d) = %v", b, at, got)
			}
		}
	}
	if names < 10000 {
		t.Errorf("only %d names were read", names)
	}
}

// Rule 4: a name that was told stays, whatever becomes of the bytes.
func TestReadIsNew(t *testing.T) {
	b := []byte("\x03www\x00\x01a\xc0\x00\x00")
	one, two, none := read(b, 0), read(b, 5), read(b, 9)
	for i := range b {
		b[i] = 'z'
	}
	if one.n != "\x03www\x00" || two.n != "\x01a\x03www\x00" || none.n != "\x00" {
		t.Errorf("%q, %q, %q", one.n, two.n, none.n)
	}
}

// P1: what is read hangs on nothing that was read ahead.
func TestReadAgain(t *testing.T) {
	b := []byte("\x01a\x00\x01b\xc0\x00\xc0\x0b\xc0\x07\x40")
	for range 3 {
		for at := -1; at <= len(b)+1; at++ {
			if got, want := read(b, at), told(b, at); got != want {
				t.Fatalf("at %d: %v, not %v", at, got, want)
			}
		}
	}
}
