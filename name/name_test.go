package name

import (
	"bytes"
	"slices"
	"strings"
	"testing"
	"unsafe"

	"ostiary/api"
	"ostiary/sample"
)

var named, words = sample.Named, sample.Words

// sized tells a name of so many bytes, in small letters.
func sized(size int) string { return strings.ToLower(sample.Sized(size)) }

// parted parts bytes into labels from the front on by taking them off, and tells whether they are a name, were it not for how long they are.
func parted(n string) ([]string, bool) {
	var l []string
	for n != "" && n != "\x00" {
		size := int(n[0])
		if size == 0 || size > 63 || size >= len(n) {
			return nil, false
		}
		l = append(l, n[1:size+1])
		n = n[size+1:]
	}
	return l, n == "\x00"
}

// wrongWith tells the error of bytes.
func wrongWith(n string) api.Errno {
	if _, whole := parted(n); !whole {
		return api.ErrBytes
	}
	if len(n) > 255 {
		return api.ErrLong
	}
	return api.OK
}

// noNames are bytes that are no name, of each kind.
var noNames = []string{
	"", "\x01", "\x01a", "a", "x", "\x00\x00", "\x00a", "\x00\x01a\x00", "\x01a\x00\x00", "\x01a\x00b", "\x02a\x00", "\x03a\x00", "\x01a\x02b\x00",
	"\x40" + strings.Repeat("a", 64) + "\x00", "\x3f" + strings.Repeat("a", 62) + "\x00", "\x3f" + strings.Repeat("a", 63), "\xc0\x0c", "\x80a\x00", "\xff\x00", "www.a.", ".",
	strings.Repeat("\x01a", 128) + "\x00", strings.Repeat("\x01a", 128), sized(256), sized(257),
}

// some are names of many kinds: near one another, with letters of both kinds, with bytes that are not text, and long.
func some() []string {
	l := []string{
		"\x00", named("a"), named("A"), named("aa"), named("b"), named("B"), named("ab"), named("a", "b"), named("A", "b"), named("a", "B"), named("b", "a"), named("z", "a"), named("a", "a"),
		named("a", "b", "c"), named("www", "Example"), named("WWW", "eXAMPLE"), named("ample"), named("a\x07b"), named("a.b"), named("a\\b"), named("\x00"), named("\x01a"), named("a", "\x01b"), named("a\x01b"),
		named("@"), named("["), named("`"), named("{"), named("Z"), named("z"), named("\xc0"), named("\xe0"), named("\xff"), named("\x7f"), named("\x80"), named(" "), named("_"), named("^"), named("\x00", "a"), named("a\x00"), named("a\x00b"),
		named(strings.Repeat("a", 63)), named(strings.Repeat("A", 63)), named(strings.Repeat("a", 62)), sized(254), sized(255), strings.Repeat("\x01a", 127) + "\x00", strings.Repeat("\x01A", 127) + "\x00", strings.Repeat("\x01a", 126) + "\x01b\x00", "\x01b" + strings.Repeat("\x01a", 126) + "\x00",
	}
	for _, w := range words("aB", 3) {
		for _, v := range words("Ab", 2) {
			if w != "" && v != "" {
				l = append(l, named(w, v))
			}
		}
	}
	return l
}

// The chapter's examples of names, one by one.
func TestExamples(t *testing.T) {
	ab, b := named("a", "B"), named("b")
	for i, got := range []bool{Within(ab, b), !Within(named("ab"), b), Within(b, b), !Within(b, named("a", "b"))} {
		if !got {
			t.Error("Within", i)
		}
	}
	for i, x := range []struct {
		a, b string
		want int
	}{{named("a", "b"), b, 1}, {named("z", "a"), named("a", "b"), -1}, {named("A"), named("a"), 0}} {
		if got := Compare(x.a, x.b); got != x.want {
			t.Error("Compare", i, got)
		}
	}
	if p, is := Parent(named("a", "b")); p != b || !is {
		t.Errorf("Parent %q %v", p, is)
	}
	if p, is := Parent("\x00"); p != "" || is {
		t.Errorf("Parent of the root %q %v", p, is)
	}
}

// P4.1: Check, Labels and Count of all short bytes, of lengths, letters and a pointer.
func TestEachShortName(t *testing.T) {
	for _, n := range words("\x00\x01\x02\x03\x3f\x40aA\xc0", 5) {
		want, e := wrongWith(n), Check(n)
		if e != want {
			t.Fatalf("Check(%q) = %v, not %v", n, e, want)
		}
		l, f := Labels(n)
		expect, _ := parted(n)
		if want != api.OK {
			expect = nil
		}
		if f != want || !slices.Equal(l, expect) || Count(n) != len(expect) {
			t.Fatalf("Labels(%q) = %q, %v; Count %d; not %q, %v", n, l, f, Count(n), expect, want)
		}
	}
}

// P4.1: each byte as a label's length, with as many bytes behind it, one less, and one more.
func TestEachLength(t *testing.T) {
	for size := range 256 {
		for more := -1; more <= 1; more++ {
			if size+more < 0 {
				continue
			}
			n := string([]byte{byte(size)}) + strings.Repeat("x", size+more) + "\x00"
			want := api.ErrBytes
			if size > 0 && size <= 63 && more == 0 {
				want = api.OK
			}
			if e := Check(n); e != want {
				t.Errorf("Check of a label of %d bytes, %d more: %v, not %v", size, more, e, want)
			}
		}
	}
}

// P4.1: names of up to 255 bytes are names, those of more too long, but bytes that are none are so ahead of that.
func TestNameLimits(t *testing.T) {
	for size := 1; size <= 257; size++ {
		if size == 2 {
			continue
		}
		n := sized(size)
		want := api.OK
		expect, _ := parted(n)
		if size > 255 {
			want, expect = api.ErrLong, nil
		}
		l, e := Labels(n)
		if len(n) != size || Check(n) != want || e != want || !slices.Equal(l, expect) || Count(n) != len(expect) {
			t.Fatalf("%d bytes: %v, %q, %v, %d", len(n), Check(n), l, e, Count(n))
		}
		for _, bad := range []string{n[:size-1], n + "\x00", n + "a", n[:size-1] + "\x40\x00", n[:size-1] + "\xc0\x00"} {
			if e := Check(bad); e != api.ErrBytes {
				t.Fatalf("%d bytes that are none: %v", len(bad), e)
			}
		}
	}
	most := strings.Repeat("\x01a", 127) + "\x00"
	if Check(most) != api.OK || Count(most) != 127 || Check("\x01a"+most) != api.ErrLong || Count("\x01a"+most) != 0 {
		t.Error("127 labels, and 128")
	}
	if e := Check(strings.Repeat("\x01a", 1<<20) + "\x00"); e != api.ErrLong {
		t.Error(e)
	}
}

// P4.1: each of a label's bytes may be any byte.
func TestLabelsOfAnyByte(t *testing.T) {
	for c := range 256 {
		label := string([]byte{byte(c), 'x', byte(c)})
		n := named(label, label)
		if l, e := Labels(n); Check(n) != api.OK || e != api.OK || !slices.Equal(l, []string{label, label}) || Count(n) != 2 {
			t.Errorf("byte %d: %v, %q, %v", c, Check(n), l, e)
		}
		if got, e := Join([]string{label, label}); got != n || e != api.OK {
			t.Errorf("byte %d: %q, %v", c, got, e)
		}
	}
}

// P4.1: of no name there are no labels, whatever it is.
func TestNoNames(t *testing.T) {
	for _, n := range noNames {
		want := wrongWith(n)
		l, e := Labels(n)
		s, f := Text(n)
		p, is := Parent(n)
		if want == api.OK || Check(n) != want || e != want || len(l) != 0 || f != want || s != "" || Count(n) != 0 || p != "" || is {
			t.Errorf("%q: %v, %v, %q, %v, %q, %d, %q, %v", n, Check(n), e, l, f, s, Count(n), p, is)
		}
	}
}

// P4.1: Join tells the first label that is wrong, and how long the name is last.
func TestJoin(t *testing.T) {
	long, most := strings.Repeat("x", 64), strings.Repeat("x", 63)
	whole := []string{most, most, most, strings.Repeat("x", 61)}
	for _, x := range []struct {
		l    []string
		want string
		e    api.Errno
	}{
		{nil, "\x00", api.OK}, {[]string{}, "\x00", api.OK}, {[]string{"a"}, "\x01a\x00", api.OK}, {[]string{"www", "Example"}, "\x03www\x07Example\x00", api.OK}, {[]string{"a.b", "\\", "\x00"}, "\x03a.b\x01\\\x01\x00\x00", api.OK},
		{[]string{most}, "\x3f" + most + "\x00", api.OK}, {[]string{long}, "", api.ErrLong}, {[]string{strings.Repeat("x", 256)}, "", api.ErrLong}, {[]string{strings.Repeat("x", 257)}, "", api.ErrLong}, {[]string{strings.Repeat("x", 1<<16)}, "", api.ErrLong},
		{[]string{""}, "", api.ErrArg}, {[]string{"a", ""}, "", api.ErrArg}, {[]string{"", "a"}, "", api.ErrArg}, {[]string{"a", "", "b"}, "", api.ErrArg},
		{[]string{long, ""}, "", api.ErrLong}, {[]string{"", long}, "", api.ErrArg}, {[]string{"a", long, ""}, "", api.ErrLong},
		{whole, named(whole...), api.OK}, {append(slices.Clone(whole), "y"), "", api.ErrLong}, {[]string{most, most, most, most[:62]}, "", api.ErrLong}, {[]string{most, most, most, most}, "", api.ErrLong},
		{append(slices.Clone(whole), "y", ""), "", api.ErrArg}, {append(slices.Clone(whole), most, most, most, "a", ""), "", api.ErrArg}, {append(slices.Clone(whole), "y", "", long), "", api.ErrArg},
		{slices.Repeat([]string{"a"}, 127), strings.Repeat("\x01a", 127) + "\x00", api.OK}, {slices.Repeat([]string{"a"}, 128), "", api.ErrLong}, {append(slices.Repeat([]string{"a"}, 128), ""), "", api.ErrArg}, {append(slices.Repeat([]string{"a"}, 126), "aa"), "", api.ErrLong},
	} {
		if got, e := Join(x.l); got != x.want || e != x.e {
			t.Errorf("Join(%q) = %q, %v, not %q, %v", x.l, got, e, x.want, x.e)
		}
	}
}

// P4.1: what Join tells has these labels, and what Labels tells are joined to that name.
func TestLabelsBack(t *testing.T) {
	for _, n := range some() {
		l, e := Labels(n)
		back, f := Join(l)
		if e != api.OK || f != api.OK || back != n || Count(n) != len(l) {
			t.Errorf("%q: %q, %v; %q, %v", n, l, e, back, f)
		}
	}
}

// P4.2: Lower of each byte, of names and of what is none.
func TestLower(t *testing.T) {
	for c := range 256 {
		want := byte(c)
		if at := strings.IndexByte("ABCDEFGHIJKLMNOPQRSTUVWXYZ", want); at >= 0 {
			want = "abcdefghijklmnopqrstuvwxyz"[at]
		}
		for _, around := range []string{"", "x", "\xc3", "\x41\xff"} {
			low := strings.ReplaceAll(around, "A", "a")
			if got := Lower(around + string([]byte{byte(c)}) + around); got != low+string([]byte{want})+low {
				t.Errorf("Lower of %d between %q: %q", c, around, got)
			}
		}
	}
	if got := Lower(""); got != "" {
		t.Errorf("%q", got)
	}
	for n, want := range map[string]string{"x\x01A": "x\x01a", "\x01A\x41\x00\x00": "\x01aa\x00\x00", "\xc3\x84 ÄÉ": "\xc3\x84 ÄÉ", "\xff\xfeZ\xff": "\xff\xfez\xff", "WWW.A.": "www.a."} {
		if got := Lower(n); got != want {
			t.Errorf("Lower(%q) = %q", n, got)
		}
	}
}

// P4.2: of each two bytes only A to Z and a to z are the same.
func TestSameBytes(t *testing.T) {
	for x := range 256 {
		for y := range 256 {
			want := x == y
			if x >= 'A' && x <= 'Z' && y == x+32 || y >= 'A' && y <= 'Z' && x == y+32 {
				want = true
			}
			p, q := string([]byte{byte(x)}), string([]byte{byte(y)})
			a, b := named(p, "z"), named(q, "Z")
			if Same(a, b) != want || Within(a, b) != want || Within(named("below", p, "z"), b) != want || (Compare(a, b) == 0) != want {
				t.Fatalf("bytes %d and %d: %v, %v, %d", x, y, Same(a, b), Within(a, b), Compare(a, b))
			}
		}
	}
}

// P4.2: names whose bytes are alike, but parted otherwise, are not the same; nor is what is no name, even as itself.
func TestSame(t *testing.T) {
	for _, x := range []struct {
		a, b string
		want bool
	}{
		{"\x00", "\x00", true}, {"\x00", named("a"), false}, {named("a"), "\x00", false}, {named("a", "b"), named("A", "B"), true}, {named("a", "b"), named("ab"), false}, {named("a\x01b"), named("a", "b"), false}, {named("a"), named("a", "a"), false},
		{named("a", "b"), named("b", "a"), false}, {named("a.b"), named("a", "b"), false}, {sized(255), sized(255), true}, {sized(255), strings.ToUpper(sized(255)), true}, {sized(256), sized(256), false},
	} {
		if Same(x.a, x.b) != x.want || Same(x.b, x.a) != x.want {
			t.Errorf("Same(%q, %q) is not %v", x.a, x.b, x.want)
		}
	}
	for _, n := range noNames {
		for _, m := range []string{n, "\x00", named("a")} {
			if Same(n, m) || Same(m, n) {
				t.Errorf("%q and %q are the same", n, m)
			}
		}
	}
}

// lowerLabels tells the labels of a name in lower form, where only bytes of ASCII change.
func lowerLabels(n string) []string {
	l, _ := parted(n)
	for i, x := range l {
		b := []byte(x)
		for j, c := range b {
			if c >= 'A' && c <= 'Z' {
				b[j] = c | 32
			}
		}
		l[i] = string(b)
	}
	return l
}

// P4.2: a name is in a zone whose labels are its last ones, as told label by label.
func TestWithin(t *testing.T) {
	names := some()
	for _, n := range names {
		for _, zone := range names {
			l, z := lowerLabels(n), lowerLabels(zone)
			want := len(z) <= len(l) && slices.Equal(l[len(l)-min(len(z), len(l)):], z)
			if got := Within(n, zone); got != want {
				t.Fatalf("Within(%q, %q) = %v", n, zone, got)
			}
		}
		if !Within(n, "\x00") || !Within(n, n) {
			t.Fatalf("%q is not in the root, or not in itself", n)
		}
	}
	for _, x := range []struct{ n, zone string }{
		{named("ab"), named("b")}, {named("a\x01b"), named("b")}, {named("a\x01b", "c"), named("b", "c")}, {named("x\x03www\x07example"), named("www", "example")}, {named("a", "b"), named("a")}, {named("a", "b", "c"), named("a", "b")}, {"\x00", named("a")}, {named("b"), named("a", "b")}, {named("a", "b", "c"), named("x", "c")}, {named("a", "b", "c"), named("x", "b", "c")},
	} {
		if Within(x.n, x.zone) {
			t.Errorf("%q is in %q", x.n, x.zone)
		}
	}
	for _, n := range noNames {
		for _, m := range []string{n, "\x00", named("a")} {
			if Within(n, m) || Within(m, n) {
				t.Errorf("%q and %q: one is in the other", n, m)
			}
		}
	}
}

// P4.2: Parent goes up label by label, as many as there are, till the root.
func TestParent(t *testing.T) {
	for _, n := range some() {
		l, _ := parted(n)
		for up := n; ; {
			next, is := Parent(up)
			if is != (len(l) > 0) || !is && next != "" {
				t.Fatalf("Parent(%q) = %q, %v", up, next, is)
			}
			if !is {
				break
			}
			l = l[1:]
			if next != named(l...) || !Within(up, next) || Within(next, up) || Count(next) != len(l) {
				t.Fatalf("Parent(%q) = %q", up, next)
			}
			up = next
		}
	}
	if p, is := Parent(sized(255)); len(p) != 255-64 || !is {
		t.Errorf("%d, %v", len(p), is)
	}
}

// ahead tells the order of two lists of labels from the last one on, label by label and byte by byte.
func ahead(a, b []string) int {
	for {
		switch {
		case len(a) == 0 && len(b) == 0:
			return 0
		case len(a) == 0:
			return -1
		case len(b) == 0:
			return 1
		}
		if c := bytes.Compare([]byte(a[len(a)-1]), []byte(b[len(b)-1])); c != 0 {
			return c
		}
		a, b = a[:len(a)-1], b[:len(b)-1]
	}
}

// P4.2, P4.5: of any two names one is ahead, as told label by label, or they are the same.
func TestCompare(t *testing.T) {
	names := some()
	for _, a := range names {
		for _, b := range names {
			want := ahead(lowerLabels(a), lowerLabels(b))
			if got := Compare(a, b); got != want || Compare(b, a) != -got || (got == 0) != Same(a, b) {
				t.Fatalf("Compare(%q, %q) = %d, not %d", a, b, got, want)
			}
		}
	}
	for _, n := range noNames {
		for _, m := range []string{n, "\x00", named("a"), named("zz")} {
			if Compare(n, m) != 0 || Compare(m, n) != 0 {
				t.Errorf("Compare(%q, %q) = %d", n, m, Compare(n, m))
			}
		}
	}
}

// P4.2: the order, name by name, each ahead of all behind it.
func TestOrder(t *testing.T) {
	long := strings.Repeat("a", 63)
	l := []string{
		"\x00", named("\x00"), named("\x00\x00"), named("\x01"), named(" "), named("0"), named("@"), named("["), named("_"), named("`"), named("A"), named("\x00", "a"), named("A", "a"), named("b", "A"), named("a", "b", "a"), named("\xff", "a"), named("a\x00"), named("a.b"), named("Aa"), named("aaa"), named(long), named("ab"),
		named("b"), named("A", "B"), named("Z"), named("a", "z"), named("{"), named("\x7f"), named("\x80"), named("\xc0"), named("\xe0"), named("\xff"),
	}
	for i, a := range l {
		for j, b := range l {
			want := 0
			if i < j {
				want = -1
			}
			if i > j {
				want = 1
			}
			if got := Compare(a, b); got != want {
				t.Errorf("Compare(%q, %q) = %d, not %d", a, b, got, want)
			}
		}
	}
}

// P4.5: what is ahead of what is ahead is ahead.
func TestAheadOfAhead(t *testing.T) {
	l := some()
	for _, a := range l {
		for _, b := range l {
			if Compare(a, b) > 0 {
				continue
			}
			for _, c := range l {
				if Compare(b, c) <= 0 && (Compare(a, c) > 0 || Compare(a, c) == 0 && (Compare(a, b) != 0 || Compare(b, c) != 0)) {
					t.Fatalf("%q, %q, %q", a, b, c)
				}
			}
		}
	}
}

// P4.5: names that are the same have one lower form, are in the same zones and hold the same names, and are alike ahead of others; the lower form is a name that is the same.
func TestSameAlike(t *testing.T) {
	names := some()
	for _, a := range names {
		low := Lower(a)
		if !Same(a, low) || Lower(low) != low || Compare(a, low) != 0 || Count(a) != Count(low) {
			t.Fatalf("%q and its lower form %q", a, low)
		}
		for _, b := range names {
			if Same(a, b) != (Lower(a) == Lower(b)) {
				t.Fatalf("%q and %q", a, b)
			}
			if Within(a, b) != Within(low, b) || Within(b, a) != Within(b, low) || Compare(a, b) != Compare(low, b) {
				t.Fatalf("%q, not as %q: %q", a, low, b)
			}
			// A name that is in a zone is behind it.
			if Within(a, b) && Compare(a, b) < 0 {
				t.Fatalf("%q is in %q, and ahead of it", a, b)
			}
		}
	}
}

// Rule 4: labels are new each time, and what was handed in stays as it was, its spare room too.
func TestHandedInStays(t *testing.T) {
	n := named("www", "Example")
	a, _ := Labels(n)
	clear(a[:cap(a)])
	if b, _ := Labels(n); !slices.Equal(b, []string{"www", "Example"}) {
		t.Errorf("%q", b)
	}
	whole := []string{"a", "B", "", strings.Repeat("x", 64)}
	for have := range len(whole) + 1 {
		l := slices.Clone(whole)
		first, e := Join(l[:have])
		clear(l)
		again, f := Join(whole[:have])
		if first != again || e != f || !slices.Equal(whole, []string{"a", "B", "", strings.Repeat("x", 64)}) {
			t.Errorf("%d labels: %q, %v; %q, %v; %q", have, first, e, again, f, whole)
		}
	}
}

// shares tells whether a piece lies in the memory of whole.
func shares(piece, whole string) bool {
	first, start := uintptr(unsafe.Pointer(unsafe.StringData(piece))), uintptr(unsafe.Pointer(unsafe.StringData(whole)))
	return first >= start && first < start+uintptr(len(whole))
}

// Rule 4: what is told of a name shares no memory with it.
func TestAnswersAreNew(t *testing.T) {
	n := strings.Clone(named("www", "Example"))
	l, _ := Labels(n)
	up, _ := Parent(n)
	for _, piece := range []string{l[0], l[1], up, Lower(n)} {
		if shares(piece, n) {
			t.Errorf("%q shares memory with %q", piece, n)
		}
	}
}

// Rule 2, P1: all calls end at any bytes, and tell nothing beside an error.
func TestCalm(t *testing.T) {
	const letters = "\x00\x01\x02\x03\x3f\x40\xc0\xffaB.\\ 059"
	s := sample.New()
	for range 20000 {
		b := make([]byte, s.Below(12))
		for i := range b {
			b[i] = letters[s.Below(len(letters))]
		}
		n, m := string(b), string(b[s.Below(len(b)+1):])
		Same(n, m)
		Within(n, m)
		Compare(n, m)
		Parent(n)
		Lower(n)
		if l, e := Labels(n); e != Check(n) || e != api.OK && len(l) != 0 {
			t.Fatalf("Labels(%q) = %q, %v", n, l, e)
		}
		if x, e := Text(n); e != Check(n) || (e == api.OK) != (x != "") {
			t.Fatalf("Text(%q) = %q, %v", n, x, e)
		}
		if x, e := Join([]string{n, m}); (e == api.OK) != (x != "") {
			t.Fatalf("Join(%q, %q) = %q, %v", n, m, x, e)
		}
		if x, f := Parse(n); (f == api.Fault{}) != (x != "") || x != "" && Check(x) != api.OK || f.At < 0 || f.At > len(n) {
			t.Fatalf("Parse(%q) = %q, %v", n, x, f)
		}
	}
}
