package rec

import (
	"math"
	"slices"
	"strings"
	"testing"
	"unsafe"

	"ostiary/api"
	"ostiary/rdata"
	"ostiary/sample"
	"ostiary/wire"
)

// step is a record that is written at a place, what is to be told, and how many tails are known then.
type step struct {
	at    int
	x     api.Rec
	want  string
	e     api.Errno
	known int
}

// follows goes along steps by one packer.
func follows(t *testing.T, steps ...step) {
	t.Helper()
	p := wire.New()
	for i, c := range steps {
		b, e := Write(p, c.at, c.x)
		if string(b) != c.want || e != c.e || p.Known() != c.known {
			t.Fatalf("step %d: Write(%d, %.99v) = %.99q, %v, then %d known, not %.99q, %v, %d", i, c.at, c.x, b, e, p.Known(), c.want, c.e, c.known)
		}
	}
}

// askStep is a question that is written likewise.
type askStep struct {
	at    int
	q     api.Question
	want  string
	e     api.Errno
	known int
}

// followsAsk goes along steps by one packer.
func followsAsk(t *testing.T, steps ...askStep) {
	t.Helper()
	p := wire.New()
	for i, c := range steps {
		b, e := Ask(p, c.at, c.q)
		if string(b) != c.want || e != c.e || p.Known() != c.known {
			t.Fatalf("step %d: Ask(%d, %v) = %q, %v, then %d known, not %q, %v, %d", i, c.at, c.q, b, e, p.Known(), c.want, c.e, c.known)
		}
	}
}

// record tells a record whose name and data alone matter.
func record(n string, t int, data string) api.Rec {
	return api.Rec{Name: n, Type: t, Class: 1, TTL: 5, Data: data}
}

// written tells what Write is to tell, by what another packer tells.
func written(p *wire.Packer, at int, x api.Rec) (string, api.Errno) {
	if e := checked(x); e != api.OK {
		return "", e
	}
	n, e := p.Name(at, x.Name)
	if e != api.OK {
		return "", e
	}
	data, e := rdata.Write(p, at+len(n)+10, x.Type, x.Data)
	if e != api.OK {
		return "", e
	}
	return string(n) + heading(x.Type, x.Class, x.TTL, len(data)) + string(data), api.OK
}

// P7.3: the chapter's example.
func TestWriteExample(t *testing.T) {
	follows(t, step{0, api.Rec{Name: "\x01a\x00", Type: 1, Class: 1, TTL: 5, Data: "\x01\x02\x03\x04"}, "\x01a\x00\x00\x01\x00\x01\x00\x00\x00\x05\x00\x04\x01\x02\x03\x04", api.OK, 1})
	followsAsk(t, askStep{0, api.Question{Name: "\x01a\x00", Type: 1, Class: 1}, "\x01a\x00\x00\x01\x00\x01", api.OK, 1})
}

// P7.3: records of each type by a new packer that meets no tail twice: as they are.
func TestWriteGood(t *testing.T) {
	for kind, l := range good() {
		for _, data := range l {
			for _, at := range []int{0, 1, 12, 16384, 60000} {
				x := record(named("Own"), kind, data)
				p, q := wire.New(), wire.New()
				b, e := Write(p, at, x)
				want, _ := written(q, at, x)
				if string(b) != want || e != api.OK || p.Known() != q.Known() {
					t.Errorf("Write(%d, %.99v) = %.99q, %v, not %.99q", at, x, b, e, want)
				}
				if kind != 6 && string(b) != plain(x) {
					t.Errorf("Write(%d, %.99v) = %.99q", at, x, b)
				}
			}
		}
	}
}

// P7.3: the numbers of records and questions, each byte of each.
func TestWriteNumbers(t *testing.T) {
	for x, is := range numbered() {
		want, e := plain(x), api.OK
		if !is {
			want, e = "", api.ErrRange
		}
		follows(t, step{7, x, want, e, 0})
	}
	for _, n := range []int{0, 1, 2, 3, 255, 256, 258, 32767, 32768, 65534, 65535} {
		followsAsk(t, askStep{7, api.Question{Name: "\x00", Type: n, Class: 1}, "\x00" + word(n, 2) + "\x00\x01", api.OK, 0})
		followsAsk(t, askStep{7, api.Question{Name: "\x00", Type: 1, Class: n}, "\x00\x00\x01" + word(n, 2), api.OK, 0})
		follows(t, step{0, record("\x00", 999, filler(n)), "\x00" + heading(999, 1, 5, n) + filler(n), api.OK, 0})
	}
	for _, n := range []int{math.MinInt, -1 << 32, -65536, -2, -1, 65536, 65537, 1 << 31, 1 << 32, 1<<32 + 1, math.MaxInt} {
		followsAsk(t, askStep{7, api.Question{Name: "\x00", Type: n, Class: 1}, "", api.ErrRange, 0}, askStep{7, api.Question{Name: "\x00", Type: 1, Class: n}, "", api.ErrRange, 0}, askStep{7, api.Question{Name: "\x00", Type: n, Class: n}, "", api.ErrRange, 0})
	}
}

// P7.3: names are told short, and are known from then on where they begin: the record's own one ahead of those in its data.
func TestWriteShort(t *testing.T) {
	ab := named("a", "b")
	follows(t,
		step{12, record(ab, 2, named("n", "a", "b")), ab + heading(2, 1, 5, 4) + "\x01n\xc0\x0c", api.OK, 3},
		// The name in the data was told at 27.
		step{31, record(named("n", "a", "b"), 1, "abcd"), "\xc0\x1b" + heading(1, 1, 5, 4) + "abcd", api.OK, 3},
		step{47, record(named("c", "b"), 15, "\x00\x05"+named("c", "b")), "\x01c\xc0\x0e" + heading(15, 1, 5, 4) + "\x00\x05\xc0\x2f", api.OK, 4},
		step{65, record(named("b"), 6, ab+named("h", "b")+filler(20)), "\xc0\x0e" + heading(6, 1, 5, 26) + "\xc0\x0c\x01h\xc0\x0e" + filler(20), api.OK, 5},
		step{103, record("\x00", 5, "\x00"), "\x00" + heading(5, 1, 5, 1) + "\x00", api.OK, 5},
		step{115, record(named("A", "b"), 12, named("A", "b")), "\x01A\xc0\x0e" + heading(12, 1, 5, 2) + "\xc0\x73", api.OK, 6},
		// What only looks like a name is told as it is.
		step{131, record("\x00", 999, ab), "\x00" + heading(999, 1, 5, 5) + ab, api.OK, 6},
		step{147, record(ab, 16, "\x01a\x01b\x00"), "\xc0\x0c" + heading(16, 1, 5, 5) + "\x01a\x01b\x00", api.OK, 6},
	)
	followsAsk(t,
		askStep{12, api.Question{Name: ab, Type: 1, Class: 1}, ab + "\x00\x01\x00\x01", api.OK, 2},
		askStep{21, api.Question{Name: ab, Type: 2, Class: 3}, "\xc0\x0c\x00\x02\x00\x03", api.OK, 2},
		askStep{27, api.Question{Name: named("c", "b"), Type: 255, Class: 255}, "\x01c\xc0\x0e\x00\xff\x00\xff", api.OK, 3},
		askStep{35, api.Question{Name: "\x00", Type: 6, Class: 1}, "\x00\x00\x06\x00\x01", api.OK, 3},
	)
	// A name in the data is known as far as pointers can lead: its place is behind the own name and ten bytes more.
	for at, known := range map[int]int{16370: 1, 16371: 1, 16372: 1, 16373: 0, 16374: 0} {
		follows(t, step{at, record("\x00", 2, named("n")), "\x00" + heading(2, 1, 5, 3) + named("n"), api.OK, known})
	}
	p := wire.New()
	Write(p, 16372, record("\x00", 2, named("n")))
	if b, e := p.Name(16386, named("n")); string(b) != "\xff\xff" || e != api.OK {
		t.Errorf("%q, %v", b, e)
	}
	// Questions and records by one packer.
	p = wire.New()
	Ask(p, 12, api.Question{Name: ab, Type: 1, Class: 1})
	if b, e := Write(p, 21, record(ab, 1, "abcd")); string(b) != "\xc0\x0c"+heading(1, 1, 5, 4)+"abcd" || e != api.OK {
		t.Errorf("%q, %v", b, e)
	}
}

// P7.3, rule 3: with Check's errors a packer has told nothing, whatever the place is.
func TestWriteBad(t *testing.T) {
	p := wire.New()
	Write(p, 10, record(named("a", "b"), 1, "abcd"))
	var no []api.Rec
	for _, x := range several() {
		if checked(x) != api.OK {
			no = append(no, x)
		}
	}
	for kind, l := range bad() {
		for _, data := range l {
			no = append(no, record(named("c"), kind, data))
		}
	}
	for _, x := range no {
		for _, at := range []int{math.MinInt, -1, 0, 15, 40, 65536} {
			if b, e := Write(p, at, x); len(b) != 0 || e != checked(x) || p.Known() != 2 {
				t.Fatalf("Write(%d, %.99v) = %q, %v, then %d known", at, x, b, e, p.Known())
			}
			q := api.Question{Name: x.Name, Type: x.Type, Class: x.Class}
			want := checked(api.Rec{Name: x.Name, Type: 999, Class: x.Class})
			if want == api.OK && (x.Type < 0 || x.Type > 65535) {
				want = api.ErrRange
			}
			if want == api.OK {
				continue
			}
			if b, e := Ask(p, at, q); len(b) != 0 || e != want || p.Known() != 2 {
				t.Fatalf("Ask(%d, %.99v) = %q, %v, then %d known", at, q, b, e, p.Known())
			}
		}
	}
	if b, e := Write(p, 15, record(named("c", "b"), 1, "abcd")); string(b) != "\x01c\xc0\x0c"+heading(1, 1, 5, 4)+"abcd" || e != api.OK {
		t.Errorf("%q, %v", b, e)
	}
}

// P7.3, rule 1: the order of a question's errors: of its name, of its numbers, of its place.
func TestAskOrder(t *testing.T) {
	a := named("a")
	for _, c := range []askStep{
		{-1, api.Question{Name: "", Type: -1}, "", api.ErrBytes, 0}, {-1, api.Question{Name: sized(256), Type: -1}, "", api.ErrLong, 0}, {-1, api.Question{Name: a, Type: -1}, "", api.ErrRange, 0}, {65536, api.Question{Name: a, Class: 65536}, "", api.ErrRange, 0},
		{-1, api.Question{Name: a, Type: 1, Class: 1}, "", api.ErrArg, 0}, {65536, api.Question{Name: a, Type: 1, Class: 1}, "", api.ErrArg, 0}, {0, api.Question{}, "", api.ErrBytes, 0}, {0, api.Question{Name: "\x01a", Type: 1, Class: 1}, "", api.ErrBytes, 0},
		{65535, api.Question{Name: a}, a + "\x00\x00\x00\x00", api.OK, 0}, {0, api.Question{Name: sized(255), Type: 1, Class: 1}, sized(255) + "\x00\x01\x00\x01", api.OK, 4}, {16383, api.Question{Name: a}, a + "\x00\x00\x00\x00", api.OK, 1}, {16384, api.Question{Name: a}, a + "\x00\x00\x00\x00", api.OK, 0},
	} {
		followsAsk(t, c)
	}
	followsAsk(t, askStep{20, api.Question{Name: a}, a + "\x00\x00\x00\x00", api.OK, 1}, askStep{22, api.Question{Name: a}, "", api.ErrState, 1}, askStep{22, api.Question{Name: a, Type: -1}, "", api.ErrRange, 1}, askStep{-1, api.Question{Name: a}, "", api.ErrArg, 1}, askStep{23, api.Question{Name: a}, "\xc0\x14\x00\x00\x00\x00", api.OK, 1})
}

// P7.3: the places of records: their own names' errors, and those of names in their data.
func TestWritePlaces(t *testing.T) {
	a := named("a")
	for _, at := range []int{math.MinInt, math.MinInt + 1, -65536, -1, 65536, 65537, 1 << 32, math.MaxInt - 1, math.MaxInt} {
		for _, x := range []api.Rec{record("\x00", 1, "abcd"), record(a, 2, a), record(a, 999, "")} {
			follows(t, step{at, x, "", api.ErrArg, 0})
		}
	}
	// Without names in the data a record may stand at the last place there is, and end behind it.
	follows(t, step{65535, record(a, 1, "abcd"), plain(record(a, 1, "abcd")), api.OK, 0})
	follows(t, step{65535, record("\x00", 999, filler(65535)), plain(record("\x00", 999, filler(65535))), api.OK, 0})
	// With one its name has to be there.
	follows(t, step{65522, record(a, 2, "\x00"), plain(record(a, 2, "\x00")), api.OK, 0})
	follows(t, step{65523, record(a, 2, "\x00"), "", api.ErrArg, 0})
	follows(t, step{65520, record(a, 15, "\x00\x05\x00"), plain(record(a, 15, "\x00\x05\x00")), api.OK, 0})
	follows(t, step{65521, record(a, 15, "\x00\x05\x00"), "", api.ErrArg, 0})
	follows(t, step{65524, record("\x00", 5, a), plain(record("\x00", 5, a)), api.OK, 0})
	follows(t, step{65525, record("\x00", 5, a), "", api.ErrArg, 0})
	follows(t, step{65521, record(a, 6, "\x00\x00"+filler(20)), plain(record(a, 6, "\x00\x00"+filler(20))), api.OK, 0})
	follows(t, step{65522, record(a, 6, "\x00\x00"+filler(20)), "", api.ErrArg, 0})
	// Below where the last name ended there is no place.
	follows(t,
		step{100, record(a, 2, a), a + heading(2, 1, 5, 2) + "\xc0\x64", api.OK, 1},
		step{114, record(a, 1, "abcd"), "", api.ErrState, 1},
		step{0, record(a, 2, a), "", api.ErrState, 1},
		step{-1, record(a, 1, "abcd"), "", api.ErrArg, 1},
		step{114, record(a, 1, "abc"), "", api.ErrBytes, 1},
		step{115, record(a, 1, "abcd"), "\xc0\x64" + heading(1, 1, 5, 4) + "abcd", api.OK, 1},
		// It ended at 117: where the data are is not known.
		step{117, record("\x00", 1, "abcd"), "\x00" + heading(1, 1, 5, 4) + "abcd", api.OK, 1},
	)
}

// P7.3: with an error of a name in the data the packer has told those ahead of it, the record's own one among them.
func TestWriteHalf(t *testing.T) {
	for _, c := range []struct {
		at   int
		x    api.Rec
		told int // where the last name that was told ended
	}{
		{65523, record(named("a"), 2, named("b")), 65526},
		{65535, record(named("a"), 5, named("b")), 65538},
		{65521, record(named("a"), 15, "xy"+named("b")), 65524},
		{65530, record(named("a"), 6, named("b")+named("c")+filler(20)), 65533},
		{65520, record("\x00", 6, named("a", "bcd")+named("b")+filler(20)), 65538},
		{65500, record(named("a"), 6, sized(255)+named("b")+filler(20)), 65768},
	} {
		p := wire.New()
		if b, e := Write(p, c.at, c.x); len(b) != 0 || e != api.ErrArg {
			t.Fatalf("Write(%d, %v) = %q, %v", c.at, c.x, b, e)
		}
		for at := c.told - 40; at < c.told+3; at++ {
			q := wire.New()
			Write(q, c.at, c.x)
			want := api.OK
			switch {
			case at > 65535:
				want = api.ErrArg
			case at < c.told:
				want = api.ErrState
			}
			if _, e := q.Name(at, "\x00"); e != want {
				t.Errorf("behind Write(%d, %v) at %d: %v, not %v", c.at, c.x, at, e, want)
			}
		}
	}
	// With the error of its own name it has told none, though that of the data would be told.
	p := wire.New()
	p.Name(10, named("a"))
	for _, at := range []int{-1, 0, 12, 65536} {
		if b, e := Write(p, at, record(named("b"), 2, named("c"))); len(b) != 0 || e == api.OK || p.Known() != 1 {
			t.Errorf("at %d: %q, %v, then %d known", at, b, e, p.Known())
		}
		if b, e := Ask(p, at, api.Question{Name: named("b")}); len(b) != 0 || e == api.OK || p.Known() != 1 {
			t.Errorf("at %d: %q, %v, then %d known", at, b, e, p.Known())
		}
	}
	if b, e := Write(p, 13, record(named("b"), 2, named("c"))); string(b) != plain(record(named("b"), 2, named("c"))) || e != api.OK || p.Known() != 3 {
		t.Errorf("%q, %v", b, e)
	}
}

// P7.3, rule 5: packers that are nil, or that New did not make, are told ahead of all else.
func TestWriteNil(t *testing.T) {
	made := wire.New()
	made.Name(0, named("a"))
	copied, cleared := *made, wire.New()
	*cleared = wire.Packer{}
	for i, p := range []*wire.Packer{nil, {}, new(wire.Packer), &copied, cleared} {
		for _, x := range append(several(), record("\x00", 1, "abcd"), api.Rec{}) {
			for _, at := range []int{-1, 0, 100, 65536} {
				if b, e := Write(p, at, x); len(b) != 0 || e != api.ErrNil {
					t.Fatalf("%d: Write(%d, %.99v) = %q, %v", i, at, x, b, e)
				}
				if b, e := Ask(p, at, api.Question{Name: x.Name, Type: x.Type, Class: x.Class}); len(b) != 0 || e != api.ErrNil {
					t.Fatalf("%d: Ask(%d, %.99v) = %q, %v", i, at, x, b, e)
				}
			}
		}
	}
	if b, e := Write(made, 3, record(named("a"), 1, "abcd")); string(b) != "\xc0\x00"+heading(1, 1, 5, 4)+"abcd" || e != api.OK {
		t.Errorf("%q, %v", b, e)
	}
}

// P7.4: what is written is read as it was, wherever it stands, whatever stands between.
func TestThereAndBack(t *testing.T) {
	type laid struct {
		at, end int
		x       api.Rec
		ask     bool
	}
	s := sample.New()
	for round := range 200 {
		p, q := wire.New(), wire.New()
		b := []byte(s.Bytes(67000))
		var all []laid
		for at := s.Below(40); at < 64000; {
			kind, data := s.Data()
			x := api.Rec{Name: s.Name(), Type: kind, Class: s.Below(65536), TTL: s.Below(1 << 31), Data: data}
			ask := s.Below(4) == 0
			var bytes []byte
			var e api.Errno
			want := ""
			if ask {
				bytes, e = Ask(p, at, api.Question{Name: x.Name, Type: x.Type, Class: x.Class})
				n, _ := q.Name(at, x.Name)
				want = string(n) + word(x.Type, 2) + word(x.Class, 2)
			} else {
				bytes, e = Write(p, at, x)
				want, _ = written(q, at, x)
			}
			if e != api.OK || string(bytes) != want || len(bytes) > len(plain(x)) || p.Known() != q.Known() {
				t.Fatalf("round %d: of %v at %d %q, %v, not %q", round, x, at, bytes, e, want)
			}
			copy(b[at:], bytes)
			all = append(all, laid{at, at + len(bytes), x, ask})
			at += len(bytes) + s.Below(12)*s.Below(12)*s.Below(12)
		}
		for _, c := range all {
			if c.ask {
				if q, end, f := Question(b, c.at); q != (api.Question{Name: c.x.Name, Type: c.x.Type, Class: c.x.Class}) || end != c.end || f != (api.Fault{}) {
					t.Fatalf("round %d: Question(.., %d) = %v, %d, %v, not %v, %d", round, c.at, q, end, f, c.x, c.end)
				}
			} else if x, end, f := Read(b, c.at); x != c.x || end != c.end || f != (api.Fault{}) {
				t.Fatalf("round %d: Read(.., %d) = %v, %d, %v, not %v, %d", round, c.at, x, end, f, c.x, c.end)
			}
		}
	}
}

// P7.4: what is read, wherever it was, is written at its place and read as it was.
func TestReadAndWrittenBack(t *testing.T) {
	s := sample.New()
	back := 0
	for range 2000 {
		b := []byte("\x01a\x01b\x00")
		for len(b) < 80 {
			to := word(0xc000+s.Below(len(b)), 2)
			kind, data := s.Data()
			if kind == 2 || kind == 15 {
				kind, data = 2, "\x01q"+to
			}
			b = append(b, to+heading(kind, s.Below(65536), s.Below(1<<32), len(data))+data...)
		}
		for at := range b {
			x, _, f := Read(b, at)
			if f.Err != api.OK {
				continue
			}
			back++
			bytes, e := Write(wire.New(), at, x)
			c := append(slices.Clone(b[:at]), bytes...)
			again, end, g := Read(c, at)
			if e != api.OK || again != x || end != len(c) || g != (api.Fault{}) {
				t.Fatalf("Read(%q, %d) = %v, written %q, %v, and read %v, %d, %v", b, at, x, bytes, e, again, end, g)
			}
		}
	}
	if back < 2000 {
		t.Errorf("only %d are records", back)
	}
}

// Rule 4: what was written is new: who writes on it, its spare room too, changes nothing that is told later.
func TestWrittenIsNew(t *testing.T) {
	s := sample.New()
	p, at := wire.New(), 0
	var told [][]byte
	var wanted []string
	for i := range 200 {
		kind, data := s.Data()
		n := s.Name()
		b, _ := Write(p, at, record(n, kind, data))
		if i%3 == 0 {
			b, _ = Ask(p, at+len(b), api.Question{Name: n, Type: kind})
		}
		told, wanted = append(told, b), append(wanted, string(b))
		at += 1000
	}
	for i, b := range told {
		b = b[:cap(b)]
		for j := range b {
			b[j] = 'z'
		}
		for k := i + 1; k < len(told); k++ {
			if string(told[k]) != wanted[k] {
				t.Fatalf("writing on %d changed %d to %q", i, k, told[k])
			}
		}
	}
}

// Rule 4: nothing is kept of what was handed in, by the packer neither.
func TestWriteKeepsNothing(t *testing.T) {
	for _, ask := range []bool{false, true} {
		n, data := []byte(named("a", "b")), []byte("xy"+named("a", "b"))
		x := record(unsafe.String(&n[0], len(n)), 15, unsafe.String(&data[0], len(data)))
		p := wire.New()
		told, want := []byte(nil), ""
		if ask {
			told, _ = Ask(p, 0, api.Question{Name: x.Name, Type: 1, Class: 1})
			want = named("a", "b") + "\x00\x01\x00\x01"
		} else {
			told, _ = Write(p, 0, x)
			want = named("a", "b") + heading(15, 1, 5, 4) + "xy\xc0\x00"
		}
		copy(n, named("c", "d"))
		copy(data, strings.Repeat("z", len(data)))
		if string(told) != want {
			t.Errorf("%q, not %q", told, want)
		}
		for i, c := range []struct{ n, want string }{{named("a", "b"), "\xc0\x00"}, {named("c", "d"), named("c", "d")}} {
			if got, e := p.Name(100*(i+1), c.n); string(got) != c.want || e != api.OK {
				t.Errorf("%q is told as %q, %v", c.n, got, e)
			}
		}
	}
}
