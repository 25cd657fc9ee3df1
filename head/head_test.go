package head

import (
	"fmt"
	"reflect"
	"slices"
	"strings"
	"testing"

	"ostiary/api"
	"ostiary/sample"
)

// with tells the head GET / of a minor number, with fields, each a name and a value.
func with(minor int, l ...string) api.Head {
	h := api.Head{Method: "GET", Target: "/", Minor: minor}
	for i := 0; i < len(l); i += 2 {
		h.Fields = append(h.Fields, api.Field{Name: l[i], Value: l[i+1]})
	}
	return h
}

// text tells a head's bytes, whatever it is.
func text(h api.Head) string {
	s := fmt.Sprintf("%s %s HTTP/1.%d\r\n", h.Method, h.Target, h.Minor)
	for _, f := range h.Fields {
		s += fmt.Sprintf("%s: %s\r\n", f.Name, f.Value)
	}
	return s + "\r\n"
}

// alike tells whether two heads are the same; nil lists and empty ones are.
func alike(a, b api.Head) bool {
	return a.Method == b.Method && a.Target == b.Target && a.Minor == b.Minor && slices.Equal(a.Fields, b.Fields)
}

// may holds that a head may be, is written as it should be, and is parsed as it was.
func may(t *testing.T, h api.Head) {
	t.Helper()
	if e := Check(h); e != api.OK {
		t.Fatalf("Check(%.300q) is %v", text(h), e)
	}
	b, e := Write(h)
	if e != api.OK || string(b) != text(h) {
		t.Fatalf("Write(%.300q) is %.300q, %v", text(h), b, e)
	}
	parses(t, text(h), h)
}

// mayNot holds that a head may not be.
func mayNot(t *testing.T, h api.Head) {
	t.Helper()
	if e := Check(h); e != api.ErrArg {
		t.Fatalf("Check(%.300q) is %v", text(h), e)
	}
	if b, e := Write(h); b != nil || e != api.ErrArg {
		t.Fatalf("Write(%.300q) is %.300q, %v", text(h), b, e)
	}
}

// mays holds whether a head may be.
func mays(t *testing.T, h api.Head, is bool) {
	t.Helper()
	if is {
		may(t, h)
	} else {
		mayNot(t, h)
	}
}

// parses holds that bytes are those of a head.
func parses(t *testing.T, s string, h api.Head) {
	t.Helper()
	if got, n := Parse([]byte(s)); !alike(got, h) || n != 200 {
		t.Fatalf("Parse(%.300q) is %.300q, %d", s, text(got), n)
	}
}

// refuses holds that bytes are those of no head, and of this status.
func refuses(t *testing.T, s string, status int) {
	t.Helper()
	if h, n := Parse([]byte(s)); !reflect.DeepEqual(h, api.Head{}) || n != status {
		t.Fatalf("Parse(%.300q) is %.300q, %d, not %d", s, text(h), n, status)
	}
}

// asWritten tells the bytes of a text in which lines' ends are ; as the chapter writes them.
func asWritten(s string) string { return strings.ReplaceAll(s, ";", "\r\n") }

// inTarget tells a target's bytes.
func inTarget(x int) bool { return x >= 33 && x <= 126 }

// one tells a byte as text.
func one(x int) string { return string([]byte{byte(x)}) }

// P13.1: ordinary heads.
func TestWrite(t *testing.T) {
	for s, h := range map[string]api.Head{
		"GET /a HTTP/1.1;Host: x;;":                {Method: "GET", Target: "/a", Minor: 1, Fields: []api.Field{{Name: "Host", Value: "x"}}},
		"GET / HTTP/1.0;;":                         {Method: "GET", Target: "/"},
		"p!~ /?a=b&c#d HTTP/1.0;a: b:c;A: ;a: b;;": {Method: "p!~", Target: "/?a=b&c#d", Fields: []api.Field{{Name: "a", Value: "b:c"}, {Name: "A"}, {Name: "a", Value: "b"}}},
	} {
		b, e := Write(h)
		if string(b) != asWritten(s) || e != api.OK {
			t.Errorf("%q, %v, not %q", b, e, s)
		}
		may(t, h)
	}
	mayNot(t, api.Head{})
}

// P13.1: each byte in a method, at its beginning, within and at its end.
func TestMethodBytes(t *testing.T) {
	for x := range 256 {
		for _, s := range []string{one(x), one(x) + "b", "a" + one(x), "a" + one(x) + "b"} {
			mays(t, api.Head{Method: s, Target: "/"}, sample.InName(x))
		}
	}
}

// P13.1: each byte in a target, as the first one, within and at its end.
func TestTargetBytes(t *testing.T) {
	for x := range 256 {
		for _, s := range []string{"/" + one(x), "/a" + one(x), "/" + one(x) + "b"} {
			mays(t, api.Head{Method: "GET", Target: s}, inTarget(x))
		}
		for _, s := range []string{one(x), one(x) + "a", one(x) + "/"} {
			mays(t, api.Head{Method: "GET", Target: s}, x == '/')
		}
	}
}

// P13.1: each byte in a field's name, at its beginning, within and at its end.
func TestNameBytes(t *testing.T) {
	for x := range 256 {
		for _, s := range []string{one(x), one(x) + "b", "a" + one(x), "a" + one(x) + "b"} {
			mays(t, with(0, s, "v"), sample.InName(x))
			mays(t, with(1, "host", "", s, "v", "z", ""), sample.InName(x))
		}
	}
}

// P13.1: each byte in a field's value, at its beginning, within and at its end.
func TestValueBytes(t *testing.T) {
	for x := range 256 {
		mays(t, with(0, "n", "a"+one(x)+"b"), sample.InValue(x))
		mays(t, with(1, "host", "a"+one(x)+one(x)+"b"), sample.InValue(x))
		for _, s := range []string{one(x), one(x) + "b", "a" + one(x)} {
			mays(t, with(0, "n", s), sample.InValue(x) && x != 9 && x != 32)
			mays(t, with(0, "m", "", "n", s, "o", ""), sample.InValue(x) && x != 9 && x != 32)
		}
	}
}

// P13.1: methods, targets and names of so many bytes.
func TestLengths(t *testing.T) {
	for n, is := range map[int]bool{0: false, 1: true, 2: true, 15: true, 16: true, 17: false, 300: false, 100000: false} {
		mays(t, api.Head{Method: strings.Repeat("M", n), Target: "/"}, is)
	}
	for n, is := range map[int]bool{1: true, 2: true, 2047: true, 2048: true, 2049: false, 4096: false, 100000: false} {
		mays(t, api.Head{Method: "GET", Target: "/" + strings.Repeat("t", n-1)}, is)
		mayNot(t, api.Head{Method: "GET", Target: strings.Repeat("t", n)})
	}
	mayNot(t, api.Head{Method: "GET"})
	for n, is := range map[int]bool{0: false, 1: true, 2: true, 63: true, 64: true, 65: false, 100000: false} {
		mays(t, with(0, strings.Repeat("n", n), "v"), is)
		mays(t, with(0, "a", "", strings.Repeat("n", n), ""), is)
	}
}

// P13.1: the minor numbers.
func TestMinor(t *testing.T) {
	for n, is := range map[int]bool{0: true, 1: true, -1: false, 2: false, 10: false, 11: false, 256: false, 257: false, 1 << 32: false, 1<<32 + 1: false, -1 << 63: false, 1<<63 - 1: false} {
		mays(t, with(n, "host", "h"), is)
	}
}

// P13.1: so many fields, of the same name and of others.
func TestFieldCount(t *testing.T) {
	for n, is := range map[int]bool{0: true, 1: true, 2: true, 31: true, 32: true, 33: false, 34: false, 64: false, 100000: false} {
		a, b := with(0), with(1, "Host", "h")
		for i := range n {
			a.Fields = append(a.Fields, api.Field{Name: "a", Value: "v"})
			if i > 0 {
				b.Fields = append(b.Fields, api.Field{Name: fmt.Sprint("n", i)})
			}
		}
		mays(t, a, is)
		mays(t, b, is)
	}
}

// P13.1: values of none, of blanks, and with blanks within.
func TestBlanksInValues(t *testing.T) {
	for s, is := range map[string]bool{
		"": true, " ": false, "\t": false, " \t": false, "\t \t ": false,
		" v": false, "\tv": false, "v ": false, "v\t": false, " v ": false, "\tv\t": false, "v \t": false,
		"v w": true, "v\tw": true, "v \t  \tw": true, ":": true, ": v": true, "v :": true, "\x80": true, "\xff \x80": true,
		"v\r\n w": false, "v\r\nw: x": false, "v\r": false, "v\n": false, "\r\n": false, "v\x00": false, "v\x7f": false, "\x85": true, "\u00a0": true, "\u2003v\u2003": true,
	} {
		mays(t, with(0, "a", s), is)
		mays(t, with(1, "host", s), is)
	}
}

// P13.1: none, one and two fields of the name host, however it is written, alone and among others.
func TestHosts(t *testing.T) {
	for _, host := range []string{"host", "Host", "HOST", "hOsT"} {
		for _, other := range []string{"host", "HOST", "hosT"} {
			for _, value := range []string{"", "x"} {
				mays(t, with(0, host, value), true)
				mays(t, with(1, host, value), true)
				mays(t, with(1, "a", "b", host, value, "hos", "t"), true)
				mays(t, with(0, host, value, other, value), false)
				mays(t, with(1, host, value, other, value), false)
				mays(t, with(1, host, "x", "a", "b", other, "y"), false)
				mays(t, with(0, host, "x", "a", "b", other, "y", host, "z"), false)
			}
		}
	}
	mays(t, with(0), true)
	mays(t, with(1), false)
	mays(t, with(0, "a", "b"), true)
	mays(t, with(1, "a", "b"), false)
	for _, near := range []string{"hos", "hosts", "xhost", "Ho5t", "h\x4fst2", "(host)"} {
		mays(t, with(1, near, "x"), false)
	}
	// Beyond A to Z nothing is large or small: 64 and 91 are no letters, nor is 96 of 64.
	mays(t, with(1, "host", "x", "`ost", "y", "HOS|", "z"), true)
}

// P13.1: heads of so many bytes.
func TestHeadSize(t *testing.T) {
	for n, is := range map[int]bool{100: true, 4094: true, 4095: true, 4096: true, 4097: false, 4098: false, 8192: false, 1 << 20: false} {
		one := with(0, "a", "")
		one.Fields[0].Value = strings.Repeat("v", n-len(text(one)))
		many := with(1, "host", "")
		many.Method = "LONG"
		for range 20 {
			many.Fields = append(many.Fields, api.Field{Name: "n", Value: "v"})
		}
		if n > len(text(many)) {
			many.Fields[0].Value = strings.Repeat("v", n-len(text(many)))
			mays(t, many, is)
		}
		if len(text(one)) != n {
			t.Fatal(len(text(one)), n)
		}
		mays(t, one, is)
	}
	long := with(0, "a", strings.Repeat("v", 2100))
	long.Target = "/" + strings.Repeat("t", 4096-len(text(long)))
	may(t, long)
	long.Target += "t"
	mayNot(t, long)
}
