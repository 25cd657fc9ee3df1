package wire

import (
	"bytes"
	"math"
	"slices"
	"strings"
	"testing"
	"unsafe"

	"ostiary/api"
	"ostiary/name"
	"ostiary/sample"
)

// tail is a tail that is known, and its place.
type tail struct {
	n     string
	place int
}

// list is a packer told otherwise: it looks its tails through one by one.
type list struct {
	tails []tail
	end   int
}

// tell tells what a packer is to tell.
func (l *list) tell(at int, n string) (string, api.Errno) {
	if e := name.Check(n); e != api.OK {
		return "", e
	}
	if at < 0 || at > 65535 {
		return "", api.ErrArg
	}
	if at < l.end {
		return "", api.ErrState
	}
	b, rest := "", n
	var learnt []tail
	for rest != "\x00" {
		if i := slices.IndexFunc(l.tails, func(x tail) bool { return x.n == rest }); i >= 0 {
			rest = place(l.tails[i].place)
			break
		}
		if at+len(b) <= 16383 {
			learnt = append(learnt, tail{rest, at + len(b)})
		}
		size := int(rest[0]) + 1
		b, rest = b+rest[:size], rest[size:]
	}
	l.tails = append(l.tails, learnt...)
	l.end = at + len(b) + len(rest)
	return b + rest, api.OK
}

// step is a name, a place, and what is to be told.
type step struct {
	at    int
	n     string
	want  string
	e     api.Errno
	known int
}

// follows goes along steps by one packer.
func follows(t *testing.T, steps ...step) {
	t.Helper()
	p := New()
	for i, x := range steps {
		b, e := p.Name(x.at, x.n)
		if string(b) != x.want || e != x.e || p.Known() != x.known {
			t.Fatalf("step %d: Name(%d, %q) = %q, %v, then %d known, not %q, %v, %d", i, x.at, x.n, b, e, p.Known(), x.want, x.e, x.known)
		}
	}
}

// P5.3: the chapter's examples, one by one.
func TestNameExamples(t *testing.T) {
	follows(t,
		step{12, "\x01a\x01b\x00", "\x01a\x01b\x00", api.OK, 2},
		step{17, "\x01c\x01b\x00", "\x01c\xc0\x0e", api.OK, 3},
		step{21, "\x01A\x01b\x00", "\x01A\xc0\x0e", api.OK, 4},
		step{25, "\x01b\x00", "\xc0\x0e", api.OK, 4},
		step{26, "\x00", "", api.ErrState, 4},
		step{20, "\x00", "", api.ErrState, 4},
	)
}

// P5.2: a packer that New made knows nothing, whatever others know.
func TestNew(t *testing.T) {
	p := New()
	if p == nil || p.Known() != 0 {
		t.Fatal(p)
	}
	p.Name(100, named("a", "b"))
	q := New()
	if p == q || q.Known() != 0 || p.Known() != 2 {
		t.Fatal(p.Known(), q.Known())
	}
	if b, e := q.Name(0, named("a", "b")); string(b) != named("a", "b") || e != api.OK {
		t.Errorf("%q, %v", b, e)
	}
	if b, e := p.Name(105, named("a", "b")); string(b) != place(100) || e != api.OK || p.Known() != 2 || q.Known() != 2 {
		t.Errorf("%q, %v", b, e)
	}
}

// P5.2: as many tails are known as labels began, each once.
func TestKnown(t *testing.T) {
	for labels := range 128 {
		p, n := New(), strings.Repeat("\x01a", labels)+"\x00"
		for _, at := range []int{0, 300, 600} {
			if p.Name(at, n); p.Known() != labels {
				t.Fatalf("%d labels, told at %d: %d known", labels, at, p.Known())
			}
		}
		// 127 labels and one more are no name.
		if p.Name(900, "\x01b"+n); p.Known() != min(labels+1, 127) {
			t.Fatalf("%d labels and one: %d known", labels, p.Known())
		}
	}
}

// P5.3: of a name's tails the first one that is known is told, the whole name ahead of the others.
func TestNameLongestFirst(t *testing.T) {
	abc, bc, c := named("a", "b", "c"), named("b", "c"), named("c")
	follows(t,
		step{0, c, c, api.OK, 1},
		step{10, bc, "\x01b" + place(0), api.OK, 2},
		step{20, abc, "\x01a" + place(10), api.OK, 3},
		step{30, abc, place(20), api.OK, 3},
		step{40, bc, place(10), api.OK, 3},
		step{50, c, place(0), api.OK, 3},
		step{60, named("x", "a", "b", "c"), "\x01x" + place(20), api.OK, 4},
		step{70, named("y", "x", "b", "c"), "\x01y\x01x" + place(10), api.OK, 6},
		step{80, named("x", "b", "c"), place(72), api.OK, 6},
		step{90, named("a", "b"), named("a", "b"), api.OK, 8},
		step{100, named("c", "b"), "\x01c" + place(92), api.OK, 9},
	)
	follows(t,
		step{0, abc, abc, api.OK, 3},
		step{7, bc, place(2), api.OK, 3},
		step{9, c, place(4), api.OK, 3},
		step{11, named("b", "b", "c"), "\x01b" + place(2), api.OK, 4},
		step{15, named("a", "c"), "\x01a" + place(4), api.OK, 5},
		step{19, named("a", "a", "c"), "\x01a" + place(15), api.OK, 6},
	)
}

// P5.3: the same labels in one name again and again are tails of their own.
func TestNameWithinItself(t *testing.T) {
	follows(t,
		step{5, named("a", "a", "a"), named("a", "a", "a"), api.OK, 3},
		step{12, named("a", "a"), place(7), api.OK, 3},
		step{14, named("a"), place(9), api.OK, 3},
		step{16, named("a", "a", "a", "a"), "\x01a" + place(5), api.OK, 4},
	)
}

// P5.3: tails are known byte by byte: of upper and lower letters, alike in name, each stands by itself.
func TestNameLetters(t *testing.T) {
	if !name.Same(named("a", "B"), named("A", "b")) {
		t.Fatal("they are not the same name")
	}
	follows(t,
		step{0, named("a", "b"), named("a", "b"), api.OK, 2},
		step{10, named("a", "B"), named("a", "B"), api.OK, 4},
		step{20, named("A", "b"), "\x01A" + place(2), api.OK, 5},
		step{30, named("A", "B"), "\x01A" + place(12), api.OK, 6},
		step{40, named("a", "b"), place(0), api.OK, 6},
		step{50, named("a", "B"), place(10), api.OK, 6},
		step{60, named("A", "b"), place(20), api.OK, 6},
		step{70, named("B"), place(12), api.OK, 6},
	)
	// Of each byte only that byte is known.
	for x := range 256 {
		p, n := New(), named(string([]byte{byte(x)}))
		p.Name(0, n)
		for y := range 256 {
			q, m := New(), named(string([]byte{byte(y)}))
			q.Name(0, n)
			want := m
			if x == y {
				want = place(0)
			}
			if b, e := q.Name(3, m); string(b) != want || e != api.OK {
				t.Fatalf("of %d, behind %d: %q, %v", y, x, b, e)
			}
		}
	}
}

// P5.3: labels that only look like others' bytes are not these: 3 a 1 b holds no label 1 b.
func TestNamePartedOtherwise(t *testing.T) {
	follows(t,
		step{0, named("a\x01b"), named("a\x01b"), api.OK, 1},
		step{10, named("b"), named("b"), api.OK, 2},
		step{20, named("a", "b"), "\x01a" + place(10), api.OK, 3},
		step{30, named("a\x01b"), place(0), api.OK, 3},
		step{40, named("\x00"), named("\x00"), api.OK, 4},
		step{50, named("x", "\x00"), "\x01x" + place(40), api.OK, 5},
		step{60, named("a.b"), named("a.b"), api.OK, 6},
	)
}

// P5.3: the root is its byte 0 wherever it stands, and no tail.
func TestNameRoot(t *testing.T) {
	follows(t,
		step{0, "\x00", "\x00", api.OK, 0},
		step{1, "\x00", "\x00", api.OK, 0},
		step{2, named("a"), named("a"), api.OK, 1},
		step{4, "\x00", "", api.ErrState, 1},
		step{5, "\x00", "\x00", api.OK, 1},
		step{6, named("a"), place(2), api.OK, 1},
		step{8, named("b"), named("b"), api.OK, 2},
		step{16384, "\x00", "\x00", api.OK, 2},
		step{65535, "\x00", "\x00", api.OK, 2},
		step{65535, "\x00", "", api.ErrState, 2},
	)
}

// P5.3: a tail is known from 0 to 16,383, and the pointer to each place is its fourteen bits.
func TestNameEachPlace(t *testing.T) {
	for at := range 16400 {
		p, a := New(), named("a")
		p.Name(at, a)
		want, known := string([]byte{192 | byte(at>>8), byte(at)}), 1
		if at >= 16384 {
			want, known = a, 0
		}
		b, e := p.Name(at+3, a)
		if string(b) != want || e != api.OK || p.Known() != known {
			t.Fatalf("told at %d, then again: %q, %v, %d known", at, b, e, p.Known())
		}
	}
}

// P5.3: about 16,384: of a name that stands on both sides the tails ahead are known, those behind are not, also when they are told again.
func TestNameReach(t *testing.T) {
	ab, b := named("a", "b"), named("b")
	follows(t,
		step{16383, ab, ab, api.OK, 1},
		step{16388, b, b, api.OK, 1},
		step{16391, ab, "\xff\xff", api.OK, 1},
		step{16393, b, b, api.OK, 1},
		step{16396, named("c", "a", "b"), "\x01c\xff\xff", api.OK, 1},
		step{16400, named("c", "a", "b"), "\x01c\xff\xff", api.OK, 1},
		step{65535, ab, "\xff\xff", api.OK, 1},
	)
	follows(t, step{16382, ab, ab, api.OK, 1}, step{16387, b, b, api.OK, 1}, step{16390, ab, "\xff\xfe", api.OK, 1})
	follows(t, step{16381, ab, ab, api.OK, 2}, step{16386, b, "\xff\xff", api.OK, 2}, step{16388, ab, "\xff\xfd", api.OK, 2})
	follows(t, step{16384, ab, ab, api.OK, 0}, step{16389, ab, ab, api.OK, 0}, step{20000, b, b, api.OK, 0})
	follows(t, step{16385, ab, ab, api.OK, 0}, step{16390, ab, ab, api.OK, 0})
	// A tail that ends in a pointer is known by where it begins.
	follows(t,
		step{12, b, b, api.OK, 1},
		step{16383, ab, "\x01a\xc0\x0c", api.OK, 2},
		step{16387, named("c", "a", "b"), "\x01c\xff\xff", api.OK, 2},
		step{16391, b, "\xc0\x0c", api.OK, 2},
	)
	// Labels of 63 bytes: which of them begin in time.
	long := strings.Repeat("x", 63)
	n := named(long, long, long)
	for known, at := range map[int]int{3: 16383 - 128, 2: 16383 - 64, 1: 16383, 0: 16384} {
		p := New()
		if b, e := p.Name(at, n); string(b) != n || e != api.OK || p.Known() != known {
			t.Errorf("at %d: %v, %d known", at, e, p.Known())
		}
		p = New()
		if p.Name(at-1, n); known > 0 && p.Known() != known {
			t.Errorf("at %d: %d known", at-1, p.Known())
		}
		p = New()
		if p.Name(at+1, n); p.Known() != max(known-1, 0) {
			t.Errorf("at %d: %d known", at+1, p.Known())
		}
	}
}

// P5.3: a place is from 0 to 65,535; a name may stand at the last one, and ends behind it.
func TestNamePlaces(t *testing.T) {
	for _, n := range []string{"\x00", named("a"), named("a", "b"), sized(254) + "\x00"} {
		for _, at := range []int{math.MinInt, math.MinInt + 1, -1 << 32, -65536, -2, -1, 65536, 65537, 1 << 17, 1 << 32, math.MaxInt - 1, math.MaxInt} {
			p := New()
			if b, e := p.Name(at, n); len(b) != 0 || e != api.ErrArg || p.Known() != 0 {
				t.Errorf("Name(%d, %q) = %q, %v", at, n, b, e)
			}
		}
		for _, at := range []int{0, 1, 16383, 16384, 32767, 32768, 65534, 65535} {
			p := New()
			if b, e := p.Name(at, n); string(b) != n || e != api.OK {
				t.Errorf("Name(%d, %q) = %q, %v", at, n, b, e)
			}
		}
		p := New()
		p.Name(65535, n)
		for at, want := range map[int]api.Errno{-1: api.ErrArg, 0: api.ErrState, 65534: api.ErrState, 65535: api.ErrState, 65536: api.ErrArg, 65536 + 255: api.ErrArg} {
			if b, e := p.Name(at, n); len(b) != 0 || e != want {
				t.Errorf("behind the last place, Name(%d, %q) = %q, %v", at, n, b, e)
			}
		}
	}
}

// P5.3: names go on from where the last one ended: there at the least, one told short as well.
func TestNameState(t *testing.T) {
	for _, first := range []int{0, 1, 12, 16380, 16384, 60000} {
		for _, n := range []string{"\x00", named("a"), named("a", "b"), named("c", "b"), named("b"), sized(254) + "\x00"} {
			for more := -3; more <= 3; more++ {
				p := New()
				b, _ := p.Name(first, named("b"))
				end := first + len(b)
				b, _ = p.Name(end, n)
				end += len(b)
				_, e := p.Name(end+more, "\x00")
				if more < 0 && e != api.ErrState || more >= 0 && e != api.OK {
					t.Errorf("%q behind %d, then at %d more: %v", n, first, more, e)
				}
			}
		}
	}
}

// noNames are bytes that are no name, of each kind, and those that are too long.
var noNames = []string{
	"", "x", "\x01", "\x01a", "a", "\x00\x00", "\x01a\x00\x00", "\x01a\x00b", "\x02a\x00", "\x01a\x02b\x00", "\x40" + strings.Repeat("a", 64) + "\x00", "\xc0\x0c", "\xc0\x00", "\x01a\xc0\x00", "\x80a\x00", "\xff\x00", "www.a.",
	strings.Repeat("\x01a", 128) + "\x00", strings.Repeat("\x01a", 128), sized(255) + "\x00", sized(256) + "\x00", sized(255),
}

// P5.3: the errors, each ahead of those that the promise names behind it.
func TestNameOrder(t *testing.T) {
	for _, n := range noNames {
		want := name.Check(n)
		if want != api.ErrBytes && want != api.ErrLong {
			t.Fatalf("%q is a name", n)
		}
		for _, at := range []int{-1, 0, 5, 65535, 65536, math.MinInt, math.MaxInt} {
			for _, p := range []*Packer{nil, {}, new(Packer)} {
				if b, e := p.Name(at, n); len(b) != 0 || e != api.ErrNil {
					t.Errorf("of none: Name(%d, %q) = %q, %v", at, n, b, e)
				}
			}
			p := New()
			for range 2 {
				if b, e := p.Name(at, n); len(b) != 0 || e != want {
					t.Errorf("Name(%d, %q) = %q, %v, not %v", at, n, b, e, want)
				}
				p.Name(1000, named("a"))
			}
		}
	}
	// Places below 0 are below where the last name ended, too.
	p := New()
	p.Name(1000, named("a"))
	for at, want := range map[int]api.Errno{-1: api.ErrArg, math.MinInt: api.ErrArg, 65536: api.ErrArg, 0: api.ErrState, 1002: api.ErrState, 1003: api.OK} {
		if b, e := p.Name(at, "\x00"); e != want || (len(b) != 0) != (e == api.OK) {
			t.Errorf("Name(%d, the root) = %q, %v, not %v", at, b, e, want)
		}
	}
}

// P5.3, rule 3: a packer that answered an error knows what it knew, and goes on where it was.
func TestNameErrorsChangeNothing(t *testing.T) {
	fail := func(p *Packer, end int) {
		for _, n := range noNames {
			for _, at := range []int{-1, end, end + 100, 65535, 65536} {
				p.Name(at, n)
			}
		}
		for _, n := range []string{"\x00", named("z"), named("y", "z"), named("x", "a"), named("a")} {
			for _, at := range []int{-1, math.MinInt, 65536, math.MaxInt} {
				p.Name(at, n)
			}
			for at := max(end-4, 0); at < end; at++ {
				p.Name(at, n)
			}
		}
	}
	p, end := New(), 0
	for i, x := range []step{{0, "\x00", "\x00", api.OK, 0}, {1, named("a"), named("a"), api.OK, 1}, {4, named("y", "z"), named("y", "z"), api.OK, 3}, {9, named("x", "a"), "\x01x" + place(1), api.OK, 4}, {13, named("x", "a"), place(9), api.OK, 4}, {15, named("z"), place(6), api.OK, 4}} {
		known := p.Known()
		fail(p, end)
		if p.Known() != known {
			t.Fatalf("ahead of step %d: %d known, not %d", i, p.Known(), known)
		}
		b, e := p.Name(x.at, x.n)
		if string(b) != x.want || e != x.e || p.Known() != x.known {
			t.Fatalf("step %d: Name(%d, %q) = %q, %v, then %d known", i, x.at, x.n, b, e, p.Known())
		}
		end = x.at + len(b)
	}
}

// Rule 5: what is nil, or what New did not make, tells ErrNil and knows nothing; so does a copy, and what was cleared.
func TestNotMade(t *testing.T) {
	made := New()
	made.Name(0, named("a", "b"))
	copied := *made
	var none Packer
	cleared := New()
	cleared.Name(0, named("a"))
	*cleared = Packer{}
	other := New()
	*other = *made
	for i, p := range []*Packer{nil, {}, new(Packer), &none, &copied, cleared, other} {
		for range 2 {
			for _, n := range []string{"\x00", named("a"), named("c", "b"), "", "x"} {
				for _, at := range []int{-1, 0, 10, 65536} {
					if b, e := p.Name(at, n); len(b) != 0 || e != api.ErrNil || p.Known() != 0 {
						t.Errorf("%d: Name(%d, %q) = %q, %v, then %d known", i, at, n, b, e, p.Known())
					}
				}
			}
		}
	}
	if b, e := made.Name(5, named("c", "b")); string(b) != "\x01c"+place(2) || e != api.OK || made.Known() != 3 {
		t.Errorf("what was copied: %q, %v, %d", b, e, made.Known())
	}
}

// P5.3: all short rows of names and places, against the list that is looked through.
func TestNameEachRow(t *testing.T) {
	names := []string{"\x00", named("a"), named("A"), named("b"), named("a", "b"), named("b", "a"), named("a", "a"), named("b", "a", "b"), named("a\x01b"), "\x01"}
	var rows func(row []step, most int)
	rows = func(row []step, most int) {
		p, l := New(), &list{}
		for _, x := range row {
			b, e := p.Name(x.at, x.n)
			want, f := l.tell(x.at, x.n)
			if string(b) != want || e != f || p.Known() != len(l.tails) {
				t.Fatalf("%v: Name(%d, %q) = %q, %v, not %q, %v; %d known, not %d", row, x.at, x.n, b, e, want, f, p.Known(), len(l.tails))
			}
		}
		if most == 0 {
			return
		}
		for _, n := range names {
			for _, at := range []int{l.end - 1, l.end, l.end + 16382} {
				rows(append(slices.Clip(row), step{at: at, n: n}), most-1)
			}
		}
	}
	rows(nil, 3)
}

// anyName tells a name of a few labels that come often, now and then a long one.
func anyName(s *sample.Source) string {
	if s.Below(20) == 0 {
		return sized(254-2*s.Below(120)) + "\x00"
	}
	var l []string
	for range s.Below(6) {
		l = append(l, []string{"a", "b", "A", "www", "example", "\x00", "a\x01b", "\xc0\x0c", strings.Repeat("x", 63), string([]byte{byte(s.Below(256))})}[s.Below(10)])
	}
	n := named(l...)
	if len(n) > 255 {
		return "\x00"
	}
	return n
}

// P5.4: names that a packer tells, laid at their places, are read there as they are, whatever stands between; and none has more bytes than the name.
func TestNamesBack(t *testing.T) {
	s := sample.New()
	for round := range 300 {
		p, l := New(), &list{}
		b := make([]byte, 66000)
		for i := range b {
			b[i] = byte(s.Below(256))
		}
		type laid struct {
			at, next int
			n        string
		}
		var all []laid
		for at := s.Below(40); at <= 65535; {
			n := anyName(s)
			told, e := p.Name(at, n)
			want, f := l.tell(at, n)
			if string(told) != want || e != api.OK || f != api.OK || len(told) > len(n) || p.Known() != len(l.tails) {
				t.Fatalf("round %d: Name(%d, %q) = %q, %v, not %q; %d known", round, at, n, told, e, want, p.Known())
			}
			copy(b[at:], told)
			all = append(all, laid{at, at + len(told), n})
			at += len(told) + s.Below(12)*s.Below(12)*s.Below(12)
		}
		for _, x := range all {
			if got, want := read(b, x.at), (reading{n: x.n, next: x.next}); got != want {
				t.Fatalf("round %d: Read(.., %d) = %q, %d, %v, not %q, %d", round, x.at, got.n, got.next, got.f, x.n, x.next)
			}
		}
	}
}

// P5.4, P7: in as many names as there is room for none has more bytes than it has, and what is known stays below its bound.
func TestNamesFull(t *testing.T) {
	p, at := New(), 0
	var b []byte
	var all []string
	for i := 0; at <= 65535; i++ {
		n := named(string([]byte{byte(i >> 8), byte(i)}))
		told, e := p.Name(at, n)
		if string(told) != n || e != api.OK || p.Known() != min(i+1, 16384/4) {
			t.Fatalf("name %d at %d: %q, %v, %d known", i, at, told, e, p.Known())
		}
		b, all = append(b, told...), append(all, n)
		at = len(b)
	}
	for i, n := range all {
		if got, want := read(b, 4*i), (reading{n: n, next: 4*i + 4}); got != want {
			t.Fatalf("name %d: %v", i, got)
		}
	}
}

// Rule 4: what was told is new: who writes on it, its spare room too, changes nothing that is told later.
func TestNameIsNew(t *testing.T) {
	p, at := New(), 0
	var told [][]byte
	var wanted []string
	for _, n := range []string{named("a", "b"), named("c", "b"), named("c", "b"), "\x00", named("a", "b"), named("d"), "\x00"} {
		b, _ := p.Name(at, n)
		told, wanted = append(told, b), append(wanted, string(b))
		at += len(b)
	}
	for i, b := range told {
		for j := range whole(b) {
			whole(b)[j] = 'z'
		}
		for k := i + 1; k < len(told); k++ {
			if string(told[k]) != wanted[k] {
				t.Fatalf("writing on name %d changed name %d to %q", i, k, told[k])
			}
		}
	}
	if b, _ := p.Name(at, named("x", "c", "b")); string(b) != "\x01x"+place(5) {
		t.Errorf("%q", b)
	}
}

// Rule 4: what a packer knows is its own: it keeps no memory of a name that was handed in.
func TestNameKeepsNothing(t *testing.T) {
	b := []byte(named("a", "b"))
	p := New()
	p.Name(0, unsafe.String(&b[0], len(b)))
	copy(b, named("x", "y"))
	for i, x := range []struct{ n, want string }{{named("a", "b"), place(0)}, {named("b"), place(2)}, {named("x", "y"), named("x", "y")}} {
		if got, e := p.Name(10*(i+1), x.n); string(got) != x.want || e != api.OK {
			t.Errorf("%q is told as %q, %v", x.n, got, e)
		}
	}
	if !bytes.Equal(b, []byte(named("x", "y"))) {
		t.Errorf("%q", b)
	}
}

// P1: packers hang on what was done to them alone: two that are asked the same by turns tell the same.
func TestNameByTurns(t *testing.T) {
	s := sample.New()
	p, q, at := New(), New(), 0
	for range 2000 {
		n := anyName(s)
		if at > 60000 {
			p, q, at = New(), New(), 0
		}
		one, e := p.Name(at, n)
		two, f := q.Name(at, n)
		if !bytes.Equal(one, two) || e != f || p.Known() != q.Known() {
			t.Fatalf("Name(%d, %q) = %q, %v, and %q, %v", at, n, one, e, two, f)
		}
		at += len(one) + s.Below(30)
	}
}
