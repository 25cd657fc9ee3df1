package rdata

import (
	"bytes"
	"math"
	"slices"
	"strings"
	"testing"
	"unsafe"

	"ostiary/api"
	"ostiary/name"
	"ostiary/sample"
	"ostiary/wire"
)

// step is data that are written at a place, and what is to be told; how many tails are known then.
type step struct {
	at, t int
	data  string
	want  string
	e     api.Errno
	known int
}

// follows goes along steps by one packer.
func follows(t *testing.T, steps ...step) {
	t.Helper()
	p := wire.New()
	for i, x := range steps {
		b, e := Write(p, x.at, x.t, x.data)
		if string(b) != x.want || e != x.e || p.Known() != x.known {
			t.Fatalf("step %d: Write(%d, %d, %q) = %q, %v, then %d known, not %q, %v, %d", i, x.at, x.t, x.data, b, e, p.Known(), x.want, x.e, x.known)
		}
	}
}

// written tells what Write is to tell, by the names that another packer tells.
func written(p *wire.Packer, at, kind int, data string) (string, api.Errno) {
	if e := checked(kind, data); e != api.OK {
		return "", e
	}
	b := ""
	l, _ := cut(kind, data)
	for i, x := range l {
		if i%2 == 0 {
			b += x
			continue
		}
		n, e := p.Name(at+len(b), x)
		if e != api.OK {
			return "", e
		}
		b += string(n)
	}
	return b, api.OK
}

// P6.3: data of each type by a new packer: as they are.
func TestWriteGood(t *testing.T) {
	for kind, l := range good() {
		for _, data := range l {
			for _, at := range []int{0, 1, 12, 16384, 65000} {
				p, q := wire.New(), wire.New()
				b, e := Write(p, at, kind, data)
				want, f := written(q, at, kind, data)
				if string(b) != want || e != f || e != api.OK || p.Known() != q.Known() {
					t.Errorf("Write(%d, %d, %q) = %q, %v, not %q, %v; %d known, not %d", at, kind, data, b, e, want, f, p.Known(), q.Known())
				}
				if kind != 6 && string(b) != data {
					t.Errorf("Write(%d, %d, %q) = %q", at, kind, data, b)
				}
			}
		}
	}
}

// P6.3: names are told short, at their places, and are known from then on where they begin.
func TestWriteShort(t *testing.T) {
	ab, b := named("a", "b"), named("b")
	follows(t,
		step{12, 2, ab, ab, api.OK, 2},
		step{17, 5, ab, "\xc0\x0c", api.OK, 2},
		step{19, 12, b, "\xc0\x0e", api.OK, 2},
		step{21, 15, "\x00\x05" + named("c", "b"), "\x00\x05\x01c\xc0\x0e", api.OK, 3},
		// c.b. is at 23, behind the two bytes of the MX.
		step{27, 15, "\x01c" + named("c", "b"), "\x01c\xc0\x17", api.OK, 3},
		step{31, 15, "\x00\x00\x00", "\x00\x00\x00", api.OK, 3},
		step{34, 6, named("d", "b") + named("e", "d", "b") + filler(20), "\x01d\xc0\x0e\x01e\xc0\x22" + filler(20), api.OK, 5},
		step{62, 2, named("e", "d", "b"), "\xc0\x26", api.OK, 5},
		step{64, 6, named("e", "d", "b") + ab + filler(20), "\xc0\x26\xc0\x0c" + filler(20), api.OK, 5},
		step{88, 2, "\x00", "\x00", api.OK, 5},
		step{89, 5, named("A", "b"), "\x01A\xc0\x0e", api.OK, 6},
	)
	follows(t,
		step{0, 6, "\x00\x00" + filler(20), "\x00\x00" + filler(20), api.OK, 0},
		step{22, 6, ab + ab + filler(20), ab + "\xc0\x16" + filler(20), api.OK, 2},
		step{49, 6, b + named("c", "a", "b") + filler(20), "\xc0\x18\x01c\xc0\x16" + filler(20), api.OK, 3},
	)
	// What only looks like names is told as it is, and is known of nobody.
	follows(t,
		step{0, 2, ab, ab, api.OK, 2},
		step{5, 999, ab, ab, api.OK, 2},
		step{10, 16, "\x01a\x01b\x00", "\x01a\x01b\x00", api.OK, 2},
		step{15, 1, "\x01z\x00\x00", "\x01z\x00\x00", api.OK, 2},
		step{19, 28, "\x01a\x01b\x00\x01a\x01b\x00\x01a\x01b\x00\x00", "\x01a\x01b\x00\x01a\x01b\x00\x01a\x01b\x00\x00", api.OK, 2},
		step{35, 0, "", "", api.OK, 2},
		step{35, 2, named("z"), named("z"), api.OK, 3},
	)
}

// P6.3: Check's errors, behind the packer's and ahead of a name's, and with them a packer stays as it was.
func TestWriteBad(t *testing.T) {
	p := wire.New()
	Write(p, 0, 15, "\x00\x05"+named("a", "b"))
	for kind, l := range bad() {
		for _, data := range l {
			for _, at := range []int{-1, 0, 3, 7, 65535, 65536, math.MinInt, math.MaxInt} {
				if b, e := Write(p, at, kind, data); len(b) != 0 || e != api.ErrBytes || p.Known() != 2 {
					t.Fatalf("Write(%d, %d, %q) = %q, %v, then %d known", at, kind, data, b, e, p.Known())
				}
			}
		}
	}
	long := named("z") + strings.Repeat("\x00", 65536)
	for _, kind := range append(append([]int{}, table...), others...) {
		if b, e := Write(p, 7, kind, long); len(b) != 0 || e != api.ErrLong {
			t.Errorf("Write(%d, %d bytes) = %q, %v", kind, len(long), b, e)
		}
	}
	for _, kind := range noType {
		for _, data := range []string{"", "\x00", named("z"), long} {
			if b, e := Write(p, -1, kind, data); len(b) != 0 || e != api.ErrRange {
				t.Errorf("Write(%d, %d bytes) = %q, %v", kind, len(data), b, e)
			}
		}
	}
	if b, e := Write(p, 7, 2, named("z", "a", "b")); string(b) != "\x01z\xc0\x02" || e != api.OK || p.Known() != 3 {
		t.Errorf("%q, %v", b, e)
	}
}

// P6.3, rule 5: packers that are nil, or that New did not make, are told ahead of all else.
func TestWriteNil(t *testing.T) {
	made := wire.New()
	made.Name(0, named("a"))
	copied, cleared := *made, wire.New()
	*cleared = wire.Packer{}
	for i, p := range []*wire.Packer{nil, {}, new(wire.Packer), &copied, cleared} {
		for _, all := range []map[int][]string{good(), bad()} {
			for kind, l := range all {
				for _, data := range l {
					for _, at := range []int{-1, 0, 100, 65536} {
						if b, e := Write(p, at, kind, data); len(b) != 0 || e != api.ErrNil {
							t.Fatalf("%d: Write(%d, %d, %q) = %q, %v", i, at, kind, data, b, e)
						}
					}
				}
			}
		}
		for _, kind := range noType {
			for _, data := range []string{"", "a", strings.Repeat("a", 65536)} {
				if b, e := Write(p, 0, kind, data); len(b) != 0 || e != api.ErrNil {
					t.Fatalf("%d: Write(0, %d, %d bytes) = %q, %v", i, kind, len(data), b, e)
				}
			}
		}
	}
	if b, e := Write(made, 3, 2, named("a")); string(b) != "\xc0\x00" || e != api.OK {
		t.Errorf("%q, %v", b, e)
	}
}

// P6.3: the places of names: their errors, and where there is no name, no place is wrong.
func TestWritePlaces(t *testing.T) {
	a := named("a")
	for _, c := range []step{
		{-1, 2, a, "", api.ErrArg, 0}, {65535, 2, a, a, api.OK, 0}, {65536, 2, a, "", api.ErrArg, 0}, {math.MinInt, 5, a, "", api.ErrArg, 0}, {math.MaxInt, 12, a, "", api.ErrArg, 0}, {16383, 2, a, a, api.OK, 1}, {16384, 2, a, a, api.OK, 0},
		// Of an MX the name stands two bytes behind.
		{-3, 15, "xy" + a, "", api.ErrArg, 0}, {-2, 15, "xy" + a, "xy" + a, api.OK, 1}, {65533, 15, "xy" + a, "xy" + a, api.OK, 0}, {65534, 15, "xy" + a, "", api.ErrArg, 0}, {math.MaxInt, 15, "xy" + a, "", api.ErrArg, 0}, {math.MaxInt - 1, 15, "xy" + a, "", api.ErrArg, 0}, {math.MinInt, 15, "xy" + a, "", api.ErrArg, 0}, {16381, 15, "xy" + a, "xy" + a, api.OK, 1}, {16382, 15, "xy" + a, "xy" + a, api.OK, 0},
		{65534, 6, "\x00\x00" + filler(20), "\x00\x00" + filler(20), api.OK, 0}, {65535, 6, "\x00\x00" + filler(20), "", api.ErrArg, 0}, {-1, 6, "\x00\x00" + filler(20), "", api.ErrArg, 0},
		{-1, 1, "abcd", "abcd", api.OK, 0}, {65536, 28, filler(16), filler(16), api.OK, 0}, {math.MinInt, 16, "\x01a", "\x01a", api.OK, 0}, {math.MaxInt, 999, "abc", "abc", api.OK, 0}, {math.MaxInt, 0, "", "", api.OK, 0},
	} {
		follows(t, c)
	}
	// Below where the last name ended there is no place for one, nor for an MX whose name is there.
	follows(t,
		step{100, 2, a, a, api.OK, 1},
		step{102, 2, a, "", api.ErrState, 1},
		step{0, 6, a + a + filler(20), "", api.ErrState, 1},
		step{100, 15, "xy" + a, "", api.ErrState, 1},
		step{-1, 2, a, "", api.ErrArg, 1},
		step{0, 1, "abcd", "abcd", api.OK, 1},
		step{101, 15, "xy" + a, "xy\xc0\x64", api.OK, 1},
		step{105, 5, a, "\xc0\x64", api.OK, 1},
	)
}

// P6.3: with the error of a SOA's second name the packer has told the first one.
func TestWriteHalf(t *testing.T) {
	// The first name ends behind the last place there is.
	p := wire.New()
	if b, e := Write(p, 65530, 6, named("a", "bc")+named("d")+filler(20)); len(b) != 0 || e != api.ErrArg {
		t.Fatalf("%q, %v", b, e)
	}
	for at, want := range map[int]api.Errno{0: api.ErrState, 65530: api.ErrState, 65535: api.ErrState, 65536: api.ErrArg} {
		if b, e := p.Name(at, "\x00"); len(b) != 0 || e != want {
			t.Errorf("then at %d: %q, %v", at, b, e)
		}
	}
	// With the error of the first one it has told none.
	p = wire.New()
	p.Name(10, named("a"))
	for _, at := range []int{-1, 12, 65536} {
		if b, e := Write(p, at, 6, named("b")+named("c")+filler(20)); len(b) != 0 || e == api.OK || p.Known() != 1 {
			t.Errorf("at %d: %q, %v, then %d known", at, b, e, p.Known())
		}
	}
	if b, e := Write(p, 13, 6, named("b")+named("c")+filler(20)); string(b) != named("b")+named("c")+filler(20) || e != api.OK || p.Known() != 3 {
		t.Errorf("%q, %v", b, e)
	}
}

// P6.5: data that are written are read as they were, wherever they stand, whatever stands between; and none have more bytes than they are.
func TestThereAndBack(t *testing.T) {
	type laid struct {
		at, size, t int
		data        string
	}
	s := sample.New()
	for round := range 200 {
		p, q := wire.New(), wire.New()
		b := []byte(s.Bytes(67000))
		var all []laid
		for at := s.Below(40); at < 65000; {
			kind, data := s.Data()
			told, e := Write(p, at, kind, data)
			want, _ := written(q, at, kind, data)
			if e != api.OK || string(told) != want || len(told) > len(data) || p.Known() != q.Known() {
				t.Fatalf("round %d: Write(%d, %d, %q) = %q, %v, not %q", round, at, kind, data, told, e, want)
			}
			copy(b[at:], told)
			all = append(all, laid{at, len(told), kind, data})
			at += len(told) + s.Below(12)*s.Below(12)*s.Below(12)
		}
		for _, x := range all {
			if data, f := Read(b, x.at, x.size, x.t); data != x.data || f != (api.Fault{}) {
				t.Fatalf("round %d: Read(.., %d, %d, %d) = %q, %v, not %q", round, x.at, x.size, x.t, data, f, x.data)
			}
		}
	}
}

// P6.5: what is read is the data of its type, and written at its place again, it is read as that.
func TestReadAndWrittenBack(t *testing.T) {
	back := 0
	for _, w := range words("\x00\x01a\xc0", 6) {
		b := []byte(w)
		for at := range len(b) {
			for _, kind := range []int{2, 15, 16} {
				data, f := Read(b, at, len(b)-at, kind)
				if f.Err != api.OK {
					continue
				}
				back++
				told, e := Write(wire.New(), at, kind, data)
				c := append(slices.Clone(b[:at]), told...)
				again, g := Read(c, at, len(told), kind)
				if Check(kind, data) != api.OK || e != api.OK || again != data || g != (api.Fault{}) {
					t.Fatalf("Read(%q, %d, .., %d) = %q, written %q, %v, and read %q, %v", b, at, kind, data, told, e, again, g)
				}
			}
		}
	}
	if back < 100 {
		t.Errorf("only %d are data", back)
	}
}

// P6.5: lower forms are data of the type, have as many bytes, and lower ones are low.
func TestLowerIsData(t *testing.T) {
	s := sample.New()
	for range 5000 {
		kind, data := s.Data()
		low := Lower(kind, data)
		if Check(kind, low) != api.OK || Lower(kind, low) != low || len(low) != len(data) || low != lowered(kind, data) {
			t.Fatalf("Lower(%d, %q) = %q", kind, data, low)
		}
		n, is := Target(kind, data)
		if m, _ := Target(kind, low); is && (m != name.Lower(n) || !name.Same(m, n)) {
			t.Fatalf("of %d, %q: %q, %q", kind, data, n, m)
		}
	}
}

// Rule 4: what was written is new: who writes on it, its spare room too, changes nothing that is told later.
func TestWrittenIsNew(t *testing.T) {
	p, at := wire.New(), 0
	var told [][]byte
	var wanted []string
	s := sample.New()
	for range 200 {
		kind, data := s.Data()
		b, _ := Write(p, at, kind, data)
		told, wanted = append(told, b), append(wanted, string(b))
		at += len(b)
	}
	for i, b := range told {
		b = b[:cap(b)]
		for j := range b {
			b[j] = 'z'
		}
		for k := i + 1; k < len(told); k++ {
			if string(told[k]) != wanted[k] {
				t.Fatalf("writing on %d changed %d to %q", i, k, told[k])
			}
		}
	}
}

// Rule 4: nothing is kept of data that were handed in, by the packer neither.
func TestWriteKeepsNothing(t *testing.T) {
	b := []byte("xy" + named("a", "b"))
	p := wire.New()
	told, _ := Write(p, 0, 15, unsafe.String(&b[0], len(b)))
	copy(b, "zz"+named("c", "d"))
	if string(told) != "xy"+named("a", "b") {
		t.Errorf("%q", told)
	}
	for i, c := range []struct{ n, want string }{{named("a", "b"), "\xc0\x02"}, {named("c", "d"), named("c", "d")}} {
		if got, e := Write(p, 10*(i+1), 2, c.n); string(got) != c.want || e != api.OK {
			t.Errorf("%q is told as %q, %v", c.n, got, e)
		}
	}
	if !bytes.Equal(b, []byte("zz"+named("c", "d"))) {
		t.Errorf("%q", b)
	}
}

// P1: what was read is new: the message may change behind it.
func TestReadKeepsNothing(t *testing.T) {
	for _, kind := range []int{2, 16, 999} {
		b := []byte("\x02ab\x00")
		size := len(b)
		if kind == 16 {
			size--
		}
		data, f := Read(b, 0, size, kind)
		copy(b, "zzzz")
		if data != "\x02ab\x00"[:size] || f != (api.Fault{}) {
			t.Errorf("%d: %q, %v", kind, data, f)
		}
	}
}
