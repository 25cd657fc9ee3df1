package head

import (
	"fmt"
	"strings"
	"testing"

	"ostiary/api"
	"ostiary/sample"
)

// The chapter's examples of Parse.
func TestParseExamples(t *testing.T) {
	h := with(1, "Host", "x")
	h.Target = "/a"
	parses(t, asWritten("GET /a HTTP/1.1;Host: x;;"), h)
	refuses(t, asWritten("GET /a HTTP/1.1;;"), 400)
	parses(t, asWritten("GET /a HTTP/1.0;;"), api.Head{Method: "GET", Target: "/a"})
	refuses(t, asWritten("GET /a HTTP/2.0;;"), 505)
	refuses(t, asWritten("GET  /a HTTP/1.1;;"), 400)
	refuses(t, asWritten("GET a HTTP/1.0;;"), 400)
	refuses(t, asWritten("GET /a HTTP/1.0;a;;"), 400)
	refuses(t, asWritten("GET /a HTTP/1.0;a :b;;"), 400)
	refuses(t, "", 400)
	if h, n := Parse(nil); n != 400 || h.Fields != nil {
		t.Error(h, n)
	}
}

// P13.2: bytes that are no lines, or whose last line is not the one that is empty.
func TestLines(t *testing.T) {
	for _, s := range []string{
		";", ";;", ";;;", "GET / HTTP/1.0", "GET / HTTP/1.0;", "GET / HTTP/1.0;a: b;", "GET / HTTP/1.0;a: b", "GET / HTTP/1.0;a: b;c",
		";GET / HTTP/1.0;;", ";;GET / HTTP/1.0;;", "GET / HTTP/1.0;;;", "GET / HTTP/1.0;;;;", "GET / HTTP/1.0;;a: b;;", "GET / HTTP/1.0;a: b;;c: d;;", "GET / HTTP/1.0;a: b;;c: d;",
		"GET / HTTP/1.0;;a", "GET / HTTP/1.0;; ", "GET / HTTP/1.0;;\r", "GET / HTTP/1.0;;\n", "GET / HTTP/1.0\n\n", "GET / HTTP/1.0\r\r", "GET / HTTP/1.0\n\r\n\r", "GET / HTTP/1.0\n;", "GET / HTTP/1.0;\n", "GET / HTTP/1.0;\r", "GET / HTTP/1.0\n\r;", "\r", "\n", "\n\r", "\r\r\n", "a",
	} {
		refuses(t, asWritten(s), 400)
	}
}

// P13.2: a byte 13 or 10 alone, at each place of a head, and two of them; and no byte at each place.
func TestBytesOfEnds(t *testing.T) {
	s := asWritten("GET /a HTTP/1.1;Host: x;a:  b c ;d:;;")
	if _, n := Parse([]byte(s)); n != 200 {
		t.Fatal(n)
	}
	for at := range len(s) + 1 {
		for _, bad := range []string{"\r", "\n", "\r\r", "\n\n", "\n\r"} {
			refuses(t, s[:at]+bad+s[at:], 400)
			refuses(t, bad+s[:at]+bad+s[at:], 400)
			if s[:at]+bad != s {
				refuses(t, s[:at]+bad, 400)
			}
		}
		if at == len(s) {
			break
		}
		refuses(t, s[:at], 400)
		if s[at] == 13 || s[at] == 10 {
			// One of a line's end is missing, or is the other one.
			refuses(t, s[:at]+s[at+1:], 400)
			refuses(t, s[:at]+one(int(s[at])^13^10)+s[at+1:], 400)
			refuses(t, s[:at]+" "+s[at+1:], 400)
		} else {
			refuses(t, s[:at]+"\r"+s[at+1:], 400)
			refuses(t, s[:at]+"\n"+s[at+1:], 400)
		}
	}
}

// P13.2: first lines that are not three words with a blank between each two.
func TestThreeWords(t *testing.T) {
	for _, s := range []string{
		"GET", "GET ", " GET", "GET /", "GET / ", "GET HTTP/1.0", "GET HTTP/1.0 ", "/ HTTP/1.0", " / HTTP/1.0", "GET  HTTP/1.0", " ", "  ", "   ", "    ",
		"GET  / HTTP/1.0", "GET /  HTTP/1.0", " GET / HTTP/1.0", "GET / HTTP/1.0 ", "  GET / HTTP/1.0", "GET / HTTP/1.0  ", " GET / HTTP/1.0 ", "GET / HTTP/1.0 x", "GET / x HTTP/1.0", "x GET / HTTP/1.0", "GET / / / HTTP/1.0",
		"GET\t/\tHTTP/1.0", "GET\t/ HTTP/1.0", "GET /\tHTTP/1.0", "GET / HTTP/1.0\t", "\tGET / HTTP/1.0", "GET / \tHTTP/1.0",
		// 400 is ahead of 505 and of 414.
		"GET  HTTP/2.0", "GET / HTTP/2.0 ", " GET / HTTP/2.0", "GET  / HTTP/2.0", "GET /  HTTP/2.0", "GET /" + strings.Repeat("a", 2048), "GET /" + strings.Repeat("a", 2048) + " HTTP/1.0 ", "GET /" + strings.Repeat("a", 2048) + "  HTTP/1.0",
	} {
		refuses(t, s+"\r\n\r\n", 400)
	}
	for n := range 40 {
		words := strings.TrimSpace(strings.Repeat("a ", n))
		if n != 3 {
			refuses(t, words+"\r\n\r\n", 400)
		}
		if n != 1 {
			refuses(t, "GET"+strings.Repeat(" ", n)+"/ HTTP/2.0\r\n\r\n", 400)
		}
	}
	refuses(t, strings.Repeat(" ", 4092)+"\r\n\r\n", 400)
}

// P13.2: third words, whichever they are.
func TestVersions(t *testing.T) {
	for s, status := range map[string]int{
		"HTTP/1.0": 200, "HTTP/1.1": 200,
		"HTTP/1.2": 505, "HTTP/1.9": 505, "HTTP/2.0": 505, "HTTP/2.1": 505, "HTTP/0.9": 505, "HTTP/0.0": 505, "HTTP/0.1": 505, "HTTP/9.9": 505,
		"HTTP/11": 400, "http/1.1": 400, "Http/1.1": 400, "HTTp/1.1": 400, "hTTP/2.0": 400, "HTTP/1.": 400, "HTTP/.1": 400, "HTTP/1": 400, "HTTP/1.10": 400, "HTTP/11.0": 400, "HTTP/1.01": 400, "HTTP/01.1": 400, "HTTP/1.1.": 400,
		"HTTP/": 400, "HTTP": 400, "H": 400, "1.1": 400, "HTTP1.1": 400, "HTTP/1,1": 400, "HTTP/1-1": 400, "HTTP/1/1": 400, "HTTP//.1": 400, "HTTP/:.1": 400, "HTTP/1./": 400, "HTTP/1.:": 400, "HTTP/a.1": 400, "HTTP/1.x": 400, "HTTP/-1.1": 400, "HTTP/+.1": 400, "HTTPS/1.1": 400, "XHTTP/1.1": 400, "HTTP/1.1HTTP/1.1": 400, "ABCD/1.1": 400, "HTTP\\1.1": 400, "/HTTP/1.1": 400,
		"HTTP/\xb1.1": 400, "HTTP/1.\xb1": 400, "HTTP/\u0661.1": 400,
	} {
		want := with(0, "host", "x")
		if s == "HTTP/1.1" {
			want.Minor = 1
		}
		if line := "GET / " + s + "\r\nhost: x\r\n\r\n"; status == 200 {
			parses(t, line, want)
		} else {
			refuses(t, line, status)
		}
	}
	for x := range 256 {
		for y := range 256 {
			status := 400
			if x >= '0' && x <= '9' && y >= '0' && y <= '9' {
				status = 505
			}
			if x == '1' && (y == '0' || y == '1') {
				status = 200
			}
			if _, n := Parse([]byte("GET / HTTP/" + one(x) + "." + one(y) + "\r\nhost: x\r\n\r\n")); n != status {
				t.Fatal(x, y, n)
			}
		}
		if _, n := Parse([]byte("GET / HTTP/1" + one(x) + "1\r\nhost: x\r\n\r\n")); n == 200 != (x == '.') || n != 200 && n != 400 {
			t.Fatal(x, n)
		}
	}
}

// P13.2: each byte in a method, in a target, in a name, in a value, and ahead of and behind a value.
func TestParsedBytes(t *testing.T) {
	colonToo := func(x int) bool { return sample.InName(x) || x == ':' }
	slash := func(x int) bool { return x == '/' }
	for _, row := range []struct {
		is    func(x int) bool
		lines []string
	}{
		{sample.InName, []string{"@ / HTTP/1.0;;", "@ET / HTTP/1.0;;", "G@T / HTTP/1.0;;", "GE@ / HTTP/1.0;;"}},
		{inTarget, []string{"GET /@ HTTP/1.0;;", "GET /@a HTTP/1.0;;"}},
		{slash, []string{"GET @ HTTP/1.0;;", "GET @/ HTTP/1.0;;", "GET @a HTTP/1.0;;"}},
		{sample.InName, []string{"GET / HTTP/1.0;@:v;;", "GET / HTTP/1.0;@n:v;;", "GET / HTTP/1.0;a:b;@n: v;c:d;;"}},
		{colonToo, []string{"GET / HTTP/1.0;n@:v;;", "GET / HTTP/1.0;n@n: v;;"}},
		{sample.InValue, []string{"GET / HTTP/1.0;n:@;;", "GET / HTTP/1.0;n:@v;;", "GET / HTTP/1.0;n: @v;;", "GET / HTTP/1.0;n:v@;;", "GET / HTTP/1.0;n:v@\t;;", "GET / HTTP/1.0;n: a@b;;", "GET / HTTP/1.0;n: @ ;o:;;", "GET / HTTP/1.0;n: \xe2@\x80;;"}},
	} {
		for _, line := range row.lines {
			for x := range 256 {
				b := strings.Replace(asWritten(line), "@", one(x), 1)
				if !row.is(x) {
					refuses(t, b, 400)
				} else if h, n := Parse([]byte(b)); n != 200 || Check(h) != api.OK {
					t.Fatalf("Parse(%q) is %q, %d", b, text(h), n)
				}
			}
		}
	}
}

// P13.2: a value is what is behind the colon, without the blanks about it, and with those within.
func TestParsedValues(t *testing.T) {
	for line, f := range map[string]api.Field{
		"a:b": {Name: "a", Value: "b"}, "a: b": {Name: "a", Value: "b"}, "a:\tb": {Name: "a", Value: "b"}, "a: \t \tb\t \t ": {Name: "a", Value: "b"}, "a:b ": {Name: "a", Value: "b"}, "a:b\t": {Name: "a", Value: "b"},
		"a:": {Name: "a"}, "a: ": {Name: "a"}, "a:\t": {Name: "a"}, "a: \t \t": {Name: "a"},
		"a:b c": {Name: "a", Value: "b c"}, "a: b\t c ": {Name: "a", Value: "b\t c"},
		"a:b:c": {Name: "a", Value: "b:c"}, "a::": {Name: "a", Value: ":"}, "a: : ": {Name: "a", Value: ":"}, "a::b": {Name: "a", Value: ":b"}, "a: b: c": {Name: "a", Value: "b: c"},
		"a:\xa0b\xa0": {Name: "a", Value: "\xa0b\xa0"}, "a: \u2003b\u2003": {Name: "a", Value: "\u2003b\u2003"}, "a: \x85 ": {Name: "a", Value: "\x85"}, "a:\xe2\x80": {Name: "a", Value: "\xe2\x80"},
		"A-b_C.0: \"x\"; (y), z=\\": {Name: "A-b_C.0", Value: "\"x\"; (y), z=\\"},
	} {
		parses(t, "GET / HTTP/1.0\r\n"+line+"\r\n\r\n", with(0, f.Name, f.Value))
		parses(t, "GET / HTTP/1.1\r\nx:y\r\n"+line+"\r\nHost:\r\n\r\n", with(1, "x", "y", f.Name, f.Value, "Host", ""))
	}
}

// P13.2: lines that are no fields.
func TestNoFields(t *testing.T) {
	for _, line := range []string{
		"a", "a b", " ", "\t", ":", ":b", " :b", "\t:b", " a:b", "\ta:b", "a :b", "a\t:b", "a b:c", "(a):b", "a(:b", "a\x00:b", "\xe4:b", "a/b:c", "a=b", "a,b:c", "\"a\":b", "a:b\x00", "a:\x7f", "a:b\x1fc", "a: \x0b b", "a:\x0c", "a:b\x08",
		strings.Repeat("n", 65) + ":v", strings.Repeat("n", 65), strings.Repeat("n", 100) + ": v", " continued", "\tcontinued: v",
	} {
		refuses(t, "GET / HTTP/1.0\r\n"+line+"\r\n\r\n", 400)
		refuses(t, "GET / HTTP/1.1\r\nHost: x\r\n"+line+"\r\nb: c\r\n\r\n", 400)
	}
}

// P13.2: how many fields of the name host there are is looked at by the minor number.
func TestParsedHosts(t *testing.T) {
	for s, most := range map[string]int{"": 0, "Host: x;": 1, "HOST:;": 1, "a: b;hOST: x;c: d;": 1} {
		for minor := range 2 {
			line := fmt.Sprintf("GET / HTTP/1.%d;%s;", minor, s)
			if most == 1 || minor == 0 {
				if _, n := Parse([]byte(asWritten(line))); n != 200 {
					t.Fatal(line, n)
				}
			} else {
				refuses(t, asWritten(line), 400)
			}
			refuses(t, asWritten(fmt.Sprintf("GET / HTTP/1.%d;%sHost: x;host:;;", minor, s)), 400)
			refuses(t, asWritten(fmt.Sprintf("GET / HTTP/1.%d;Host: x;%shost: x;;", minor, s)), 400)
		}
	}
	refuses(t, asWritten("GET / HTTP/1.1;hosts: x;;"), 400)
}

// P13.2: heads of so many bytes; with more than may be nothing else is looked at.
func TestParsedSize(t *testing.T) {
	for _, n := range []int{4095, 4096, 4097, 4098, 10000} {
		for _, s := range []string{"GET / HTTP/1.0\r\na:@\r\n\r\n", "GET / HTTP/1.1\r\nHost:@\r\n\r\n", "GET / HTTP/1.0\r\na: @b\r\n\r\n"} {
			filled := strings.Replace(s, "@", strings.Repeat("v", n-len(s)+1), 1)
			h, status := Parse([]byte(filled))
			if n <= 4096 && (status != 200 || len(h.Fields) != 1 || len(h.Fields[0].Value) != strings.Count(filled, "v")+strings.Count(filled, "b")) || n > 4096 && status != 431 || len(filled) != n {
				t.Fatal(n, status)
			}
		}
	}
	for _, s := range []string{"\x00", "\r\n", " ", "GET / HTTP/2.0\r\n", "a", "G(T / HTTP/1.0\r\n\r\n"} {
		refuses(t, strings.Repeat(s, 5000/len(s)), 431)
	}
	refuses(t, strings.Repeat("a", 4096), 400)
	refuses(t, strings.Repeat("a", 4097), 431)
	// Blanks about a value count as they came: there are 22 bytes besides.
	parses(t, "GET / HTTP/1.0\r\na:"+strings.Repeat(" ", 4096-22)+"\r\n\r\n", with(0, "a", ""))
	refuses(t, "GET / HTTP/1.0\r\na:"+strings.Repeat(" ", 4097-22)+"\r\n\r\n", 431)
}

// P13.2: targets and methods of so many bytes.
func TestParsedLengths(t *testing.T) {
	for n, status := range map[int]int{1: 200, 2: 200, 2047: 200, 2048: 200, 2049: 414, 2050: 414, 4000: 414} {
		target := "/" + strings.Repeat("t", n-1)
		if line := "GET " + target + " HTTP/1.0\r\n\r\n"; status == 200 {
			parses(t, line, api.Head{Method: "GET", Target: target})
			refuses(t, "GET t"+target[1:]+" HTTP/1.0\r\n\r\n", 400)
			if n < 2048 {
				refuses(t, "GET "+target+"\x7f HTTP/1.0\r\n\r\n", 400)
			}
		} else {
			refuses(t, line, status)
			// 414 is ahead of a target that may not be otherwise.
			refuses(t, "GET t"+target[1:]+" HTTP/1.0\r\n\r\n", status)
			refuses(t, "GET "+target[1:]+"\x00 HTTP/1.0\r\n\r\n", status)
		}
	}
	for n, status := range map[int]int{1: 200, 15: 200, 16: 200, 17: 400, 100: 400} {
		method := strings.Repeat("M", n)
		if line := method + " / HTTP/1.0\r\n\r\n"; status == 200 {
			parses(t, line, api.Head{Method: method, Target: "/"})
		} else {
			refuses(t, line, status)
		}
	}
	for n, status := range map[int]int{1: 200, 63: 200, 64: 200, 65: 400, 66: 400, 1000: 400} {
		name := strings.Repeat("n", n)
		if line := "GET / HTTP/1.0\r\n" + name + ":\r\n\r\n"; status == 200 {
			parses(t, line, with(0, name, ""))
		} else {
			refuses(t, line, status)
		}
	}
}

// P13.2: so many fields; the 33rd is told ahead of what is wrong with it, and behind what is wrong with those ahead of it.
func TestParsedFieldCount(t *testing.T) {
	for _, n := range []int{0, 1, 31, 32, 33, 34, 100} {
		s := "GET / HTTP/1.0\r\n" + strings.Repeat("a:b\r\n", n)
		if h, status := Parse([]byte(s + "\r\n")); n <= 32 && (status != 200 || len(h.Fields) != n) || n > 32 && status != 431 {
			t.Fatal(n, status)
		}
		want := 400
		if n >= 32 {
			want = 431
		}
		for _, bad := range []string{"a", ":b", "a :b", "a:\x00", " "} {
			refuses(t, s+bad+"\r\n\r\n", want)
			refuses(t, s+bad+"\r\na:b\r\n\r\n", want)
			refuses(t, "GET / HTTP/1.0\r\n"+bad+"\r\n"+strings.Repeat("a:b\r\n", n)+"\r\n", 400)
		}
	}
	for at := range 40 {
		// 40 lines, of which one is no field.
		s := strings.Repeat("a:b\r\n", at) + "a\r\n" + strings.Repeat("a:b\r\n", 39-at)
		want := 400
		if at >= 32 {
			want = 431
		}
		refuses(t, "GET / HTTP/1.0\r\n"+s+"\r\n", want)
	}
	// The hosts are counted at the end: 33 fields are told ahead of them.
	refuses(t, "GET / HTTP/1.1\r\n"+strings.Repeat("a:b\r\n", 33)+"\r\n", 431)
	refuses(t, "GET / HTTP/1.1\r\n"+strings.Repeat("host:b\r\n", 33)+"\r\n", 431)
	refuses(t, "GET / HTTP/1.1\r\n"+strings.Repeat("a:b\r\n", 32)+"\r\n", 400)
	refuses(t, "GET / HTTP/1.1\r\n"+strings.Repeat("a:b\r\n", 32)+"host:b\r\n\r\n", 431)
}
