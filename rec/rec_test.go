package rec

import (
	"math"
	"slices"
	"strings"
	"testing"

	"ostiary/api"
	"ostiary/name"
	"ostiary/rdata"
	"ostiary/sample"
)

var (
	named, sized, filler = sample.Named, sample.Sized, sample.Filler
	word, heading, plain = sample.Word, sample.Heading, sample.Plain
)

// good is data of each type that has its own, and of some that have not.
func good() map[int][]string {
	return map[int][]string{
		1:     {"\x01\x02\x03\x04", "\x00\x00\x00\x00", "\x01A\x00\x00"},
		28:    {strings.Repeat("\x00", 16), "ABCDEFGHIJKLMNOP"},
		2:     {"\x00", named("NS", "Example"), sized(255)},
		5:     {"\x00", named("A", "b")},
		12:    {named("1", "in-addr", "ARPA")},
		15:    {"\x00\x05\x00", "AZ" + named("MX", "a"), "\x00\x00" + sized(255)},
		6:     {"\x00\x00" + filler(20), named("NS", "a") + named("Host", "a") + strings.Repeat("\x01A\x00\x00", 5), sized(255) + named("A") + filler(20)},
		16:    {"\x00", "\x01A\x00\x02BC", "\xff" + strings.Repeat("T", 255) + "\x01A"},
		0:     {"", "A", named("A")},
		41:    {"", "\x00\x0a\x00\x08ABCDEFGH"},
		999:   {"", named("A"), filler(300)},
		65535: {"", filler(65535)},
	}
}

// bad is bytes that are not the data of their type.
func bad() map[int][]string {
	return map[int][]string{
		1:  {"", "ABC", "ABCDE"},
		28: {"", filler(15), filler(17)},
		2:  {"", "\x01A", "\x00\x00", "\xc0\x00", sized(256)},
		5:  {"", "A"},
		12: {"", "\x00A"},
		15: {"", "AB", "AB\x01C", "AB\xc0\x00"},
		6:  {"", "\x00\x00" + filler(19), "\x00\x00" + filler(21), "\x00" + filler(20)},
		16: {"", "\x01", "\x00\x02A"},
	}
}

// numbered tells records that differ in their numbers, one of each edge, and whether these are within their bounds.
func numbered() map[api.Rec]bool {
	l := map[api.Rec]bool{}
	for n, is := range map[int]bool{0: true, 1: true, 255: true, 256: true, 32767: true, 32768: true, 65534: true, 65535: true, -1: false, -2: false, 65536: false, 65537: false, 1 << 31: false, 1 << 32: false, 1<<32 + 999: false, -1 << 32: false, math.MinInt: false, math.MaxInt: false} {
		l[api.Rec{Name: "\x00", Type: 999, Class: n}] = is
		l[api.Rec{Name: "\x00", Type: n, Class: 1, Data: "\x00\x00\x00\x00"}] = is
	}
	for n, is := range map[int]bool{0: true, 1: true, 65535: true, 65536: true, 1<<31 - 2: true, 1<<31 - 1: true, -1: false, -2: false, 1 << 31: false, 1<<31 + 1: false, 1<<32 - 1: false, 1 << 32: false, 1<<32 + 5: false, 1 << 40: false, -1 << 31: false, math.MinInt: false, math.MaxInt: false} {
		l[api.Rec{Name: "\x00", Type: 999, Class: 1, TTL: n}] = is
	}
	return l
}

// checked tells what Check is to tell.
func checked(x api.Rec) api.Errno {
	if e := name.Check(x.Name); e != api.OK {
		return e
	}
	for _, n := range []int{x.Type, x.Class} {
		if n != n&65535 {
			return api.ErrRange
		}
	}
	if x.TTL != x.TTL&(1<<31-1) {
		return api.ErrRange
	}
	return rdata.Check(x.Type, x.Data)
}

// P7.1: of each type its data, and bytes that are not.
func TestCheckEachType(t *testing.T) {
	for _, n := range []string{"\x00", named("a"), named("A", "b"), sized(3), sized(254), sized(255)} {
		for kind, l := range good() {
			for _, data := range l {
				if e := Check(api.Rec{Name: n, Type: kind, Class: 1, TTL: 5, Data: data}); e != api.OK {
					t.Errorf("Check(%q, %d, %q) = %v", n, kind, data, e)
				}
			}
		}
		for kind, l := range bad() {
			for _, data := range l {
				if e := Check(api.Rec{Name: n, Type: kind, Class: 1, TTL: 5, Data: data}); e != api.ErrBytes {
					t.Errorf("Check(%q, %d, %q) = %v", n, kind, data, e)
				}
			}
		}
	}
}

// P7.1: names that are none, and data of which there are too many.
func TestCheckBytes(t *testing.T) {
	for n, want := range map[string]api.Errno{"": api.ErrBytes, "a": api.ErrBytes, "\x01a": api.ErrBytes, "\x00\x00": api.ErrBytes, "\xc0\x00": api.ErrBytes, "\x40" + strings.Repeat("a", 64) + "\x00": api.ErrBytes, sized(256): api.ErrLong, sized(300): api.ErrLong} {
		if e := Check(api.Rec{Name: n, Type: 999}); e != want {
			t.Errorf("Check(%q) = %v, not %v", n, e, want)
		}
	}
	for size, want := range map[int]api.Errno{0: api.OK, 1: api.OK, 65534: api.OK, 65535: api.OK, 65536: api.ErrLong, 70000: api.ErrLong} {
		if e := Check(api.Rec{Name: "\x00", Type: 999, Data: filler(size)}); e != want {
			t.Errorf("Check of %d bytes = %v, not %v", size, e, want)
		}
	}
}

// P7.1: the bounds of the three numbers.
func TestCheckNumbers(t *testing.T) {
	for x, is := range numbered() {
		want := api.ErrRange
		if is {
			want = api.OK
		}
		if e := Check(x); e != want {
			t.Errorf("Check(%v) = %v, not %v", x, e, want)
		}
	}
}

// several tells records in which several things, or none, are wrong.
func several() []api.Rec {
	var l []api.Rec
	for _, n := range []string{"\x00", named("A", "b"), "", "\x01a", sized(256)} {
		for _, kind := range []int{1, 2, 999, -1, 65536} {
			for _, class := range []int{1, 65535, -1, 65536} {
				for _, ttl := range []int{0, 1<<31 - 1, -1, 1 << 31} {
					for _, data := range []string{"", "\x00", "\x01a\x00\x00", strings.Repeat("\x00", 65536)} {
						l = append(l, api.Rec{Name: n, Type: kind, Class: class, TTL: ttl, Data: data})
					}
				}
			}
		}
	}
	return l
}

// P7.1, rule 1: the first of several errors is told: that of the name, of the numbers, of the data.
func TestCheckOrder(t *testing.T) {
	for _, x := range several() {
		if e := Check(x); e != checked(x) {
			t.Errorf("Check(%q, %d, %d, %d, %d bytes) = %v, not %v", x.Name, x.Type, x.Class, x.TTL, len(x.Data), e, checked(x))
		}
	}
	for _, c := range []struct {
		x api.Rec
		e api.Errno
	}{
		{api.Rec{Name: "", Type: -1, Data: "a"}, api.ErrBytes},
		{api.Rec{Name: sized(256), Class: -1}, api.ErrLong},
		{api.Rec{Name: sized(256), Type: 1, Data: "a"}, api.ErrLong},
		{api.Rec{Name: "\x00", Type: 1, Class: -1, Data: "a"}, api.ErrRange},
		{api.Rec{Name: "\x00", Type: 1, TTL: -1, Data: "a"}, api.ErrRange},
		{api.Rec{Name: "\x00", Type: 1, TTL: 1 << 31, Data: filler(65536)}, api.ErrRange},
		{api.Rec{Name: "\x00", Type: 70000, Data: filler(65536)}, api.ErrRange},
		{api.Rec{Name: "\x00", Type: 1, Data: filler(65536)}, api.ErrLong},
		{api.Rec{Name: "\x00", Type: 1, Data: "a"}, api.ErrBytes},
		{api.Rec{}, api.ErrBytes},
	} {
		if e := Check(c.x); e != c.e {
			t.Errorf("Check(%v) = %v, not %v", c.x, e, c.e)
		}
	}
}

// P7.1: records that are the same: those of one row, whatever their TTLs, and no two of two rows.
func TestSame(t *testing.T) {
	soa := strings.Repeat("Zz", 10)
	rows := [][]api.Rec{
		{{Name: "\x01a\x00", Type: 1, Class: 1, TTL: 5, Data: "ABCD"}, {Name: "\x01A\x00", Type: 1, Class: 1, TTL: 9, Data: "ABCD"}, {Name: "\x01a\x00", Type: 1, Class: 1, TTL: 1<<31 - 1, Data: "ABCD"}},
		// Letters that are not in names stay what they are.
		{{Name: "\x01a\x00", Type: 1, Class: 1, Data: "abcd"}},
		{{Name: "\x01a\x00", Type: 1, Class: 0, Data: "ABCD"}}, {{Name: "\x01a\x00", Type: 1, Class: 3, Data: "ABCD"}}, {{Name: "\x01a\x00", Type: 1, Class: 257, Data: "ABCD"}},
		{{Name: "\x01b\x00", Type: 1, Class: 1, Data: "ABCD"}}, {{Name: "\x00", Type: 1, Class: 1, Data: "ABCD"}}, {{Name: "\x01a\x01a\x00", Type: 1, Class: 1, Data: "ABCD"}},
		{{Name: "\x01a\x00", Type: 0, Class: 1, Data: "ABCD"}}, {{Name: "\x01a\x00", Type: 257, Class: 1, Data: "ABCD"}},
		{{Name: "\x01a\x00", Type: 2, Class: 1, Data: named("A", "b")}, {Name: "\x01A\x00", Type: 2, Class: 1, Data: named("a", "B")}, {Name: "\x01a\x00", Type: 2, Class: 1, TTL: 1, Data: named("a", "b")}},
		{{Name: "\x01a\x00", Type: 5, Class: 1, Data: named("A", "b")}, {Name: "\x01A\x00", Type: 5, Class: 1, Data: named("a", "B")}},
		{{Name: "\x01a\x00", Type: 12, Class: 1, Data: named("A", "b")}, {Name: "\x01A\x00", Type: 12, Class: 1, Data: named("a", "B")}},
		{{Name: "\x01a\x00", Type: 2, Class: 1, Data: named("b", "a")}}, {{Name: "\x01a\x00", Type: 2, Class: 1, Data: named("a")}}, {{Name: "\x01a\x00", Type: 2, Class: 1, Data: named("a\x01b")}},
		{{Name: "\x01a\x00", Type: 15, Class: 1, Data: "Aa" + named("M")}, {Name: "\x01A\x00", Type: 15, Class: 1, Data: "Aa" + named("m")}},
		{{Name: "\x01a\x00", Type: 15, Class: 1, Data: "aa" + named("M")}}, {{Name: "\x01a\x00", Type: 15, Class: 1, Data: "AA" + named("m")}},
		{{Name: "\x01a\x00", Type: 6, Class: 1, Data: named("N") + named("H", "n") + soa}, {Name: "\x01A\x00", Type: 6, Class: 1, Data: named("n") + named("h", "N") + soa}, {Name: "\x01a\x00", Type: 6, Class: 1, Data: named("n") + named("H", "N") + soa}},
		{{Name: "\x01a\x00", Type: 6, Class: 1, Data: named("N") + named("H", "n") + strings.ToLower(soa)}, {Name: "\x01a\x00", Type: 6, Class: 1, Data: named("n") + named("h", "n") + strings.ToLower(soa)}},
		{{Name: "\x01a\x00", Type: 16, Class: 1, Data: "\x01A"}}, {{Name: "\x01a\x00", Type: 16, Class: 1, Data: "\x01a"}},
		{{Name: "\x01a\x00", Type: 28, Class: 1, Data: strings.Repeat("A", 16)}}, {{Name: "\x01a\x00", Type: 28, Class: 1, Data: strings.Repeat("a", 16)}},
		{{Name: "\x01a\x00", Type: 999, Class: 1, Data: named("A")}, {Name: "\x01A\x00", Type: 999, Class: 1, TTL: 7, Data: named("A")}}, {{Name: "\x01a\x00", Type: 999, Class: 1, Data: named("a")}}, {{Name: "\x01a\x00", Type: 999, Class: 1}},
		{{Name: named("\x00Q[@"), Type: 999, Class: 1}, {Name: named("\x00q[@"), Type: 999, Class: 1}}, {{Name: named("\x00Q{@"), Type: 999, Class: 1}}, {{Name: named("\x00Q[`"), Type: 999, Class: 1}}, {{Name: named("\x20Q[@"), Type: 999, Class: 1}},
		{{Name: sized(255), Type: 65535, Class: 65535, Data: filler(65535)}, {Name: strings.ToLower(sized(255)), Type: 65535, Class: 65535, TTL: 1, Data: filler(65535)}},
		{{Name: sized(255), Type: 65535, Class: 65535, Data: filler(65534)}}, {{Name: sized(255), Type: 65535, Class: 65535, Data: filler(65534) + "\xfe"}}, {{Name: sized(254), Type: 65535, Class: 65535, Data: filler(65535)}},
	}
	for i, one := range rows {
		for j, other := range rows {
			for _, a := range one {
				for _, b := range other {
					if Same(a, b) != (i == j) {
						t.Errorf("Same(%.99v, %.99v) = %v", a, b, i != j)
					}
				}
			}
		}
	}
}

// P7.1: what may not be is the same as nothing, not even as itself.
func TestSameMayNotBe(t *testing.T) {
	var no []api.Rec
	for _, x := range several() {
		if checked(x) != api.OK {
			no = append(no, x)
		}
	}
	for x, is := range numbered() {
		if !is {
			no = append(no, x)
		}
	}
	for kind, l := range bad() {
		for _, data := range l {
			no = append(no, api.Rec{Name: "\x01a\x00", Type: kind, Class: 1, Data: data})
		}
	}
	may := []api.Rec{{Name: "\x00", Type: 999}, {Name: "\x00", Type: 999, Class: 1}, {Name: "\x01a\x00", Type: 1, Class: 1, Data: "abcd"}}
	for i, x := range no {
		if Same(x, x) {
			t.Errorf("Same(%.99v, itself)", x)
		}
		for _, y := range append(slices.Clone(may), no[(i+1)%len(no)]) {
			if Same(x, y) || Same(y, x) {
				t.Errorf("Same(%.99v, %.99v)", x, y)
			}
		}
	}
	// But for what may not be of the one, they would be the same.
	good := api.Rec{Name: "\x00", Type: 999, Class: 1, TTL: 1<<31 - 1}
	for _, ttl := range []int{-1, 1 << 31, math.MaxInt} {
		x := good
		x.TTL = ttl
		if Same(good, x) || Same(x, good) || Same(x, x) {
			t.Errorf("Same, with a TTL of %d", ttl)
		}
	}
	if !Same(good, good) {
		t.Error("the good one is not the same as itself")
	}
}

// P7.4: records that are the same are so either way, and with each other's same ones; and just those whose parts are.
func TestSameOfSame(t *testing.T) {
	var l []api.Rec
	for _, n := range []string{"\x01a\x00", "\x01A\x00", "\x01b\x00", "\x01a\x01a\x00"} {
		for kind, all := range map[int][]string{1: {"abcd", "ABCD"}, 2: {"\x01a\x00", "\x01A\x00", "\x00"}, 16: {"\x01a", "\x01A"}, 15: {"Aa\x01a\x00", "Aa\x01A\x00", "aa\x01a\x00"}, 999: {"\x01a\x00", "\x01A\x00"}, 5: {"\x01a\x00", ""}} {
			for i, data := range all {
				l = append(l, api.Rec{Name: n, Type: kind, Class: 1 + i%2*2, TTL: i, Data: data}, api.Rec{Name: n, Type: kind, Class: 1, TTL: 7 - i, Data: data})
			}
		}
	}
	pairs := 0
	for _, a := range l {
		for _, b := range l {
			want := checked(a) == api.OK && checked(b) == api.OK && a.Type == b.Type && a.Class == b.Class && name.Same(a.Name, b.Name) && rdata.Lower(a.Type, a.Data) == rdata.Lower(b.Type, b.Data)
			if Same(a, b) != want || Same(b, a) != want {
				t.Fatalf("Same(%v, %v) = %v, the other way %v", a, b, Same(a, b), Same(b, a))
			}
			if !want {
				continue
			}
			pairs++
			for _, c := range l {
				if Same(b, c) != Same(a, c) {
					t.Fatalf("%v is as %v, but %v is not so of both", a, b, c)
				}
			}
		}
	}
	if pairs < len(l) {
		t.Errorf("only %d pairs are the same", pairs)
	}
}
