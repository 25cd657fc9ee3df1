package resp

import (
	"bytes"
	"fmt"
	"maps"
	"reflect"
	"slices"
	"strconv"
	"strings"
	"testing"

	"ostiary/api"
	"ostiary/sample"
)

// The statuses, and their reasons, as the chapter names them.
var told = map[int]string{
	200: "OK", 400: "Bad Request", 404: "Not Found", 405: "Method Not Allowed", 411: "Length Required", 413: "Content Too Large", 414: "URI Too Long", 415: "Unsupported Media Type", 417: "Expectation Failed", 429: "Too Many Requests", 431: "Request Header Fields Too Large", 501: "Not Implemented", 503: "Service Unavailable", 505: "HTTP Version Not Supported",
}

// with tells the response of the status 200 and of no body, behind which the connection goes on, with fields, each a name and a value.
func with(l ...string) api.Resp {
	r := api.Resp{Status: 200, Keep: true}
	for i := 0; i < len(l); i += 2 {
		r.Fields = append(r.Fields, api.Field{Name: l[i], Value: l[i+1]})
	}
	return r
}

// text tells a response's bytes, whatever it is.
func text(r api.Resp) string {
	var w strings.Builder
	fmt.Fprintf(&w, "HTTP/1.1 %d %s\r\n", r.Status, told[r.Status])
	for _, f := range r.Fields {
		fmt.Fprintf(&w, "%s: %s\r\n", f.Name, f.Value)
	}
	fmt.Fprintf(&w, "Content-Length: %d\r\n", len(r.Body))
	if !r.Keep {
		w.WriteString("Connection: close\r\n")
	}
	return w.String() + "\r\n" + string(r.Body)
}

// alike tells whether two responses are the same; nil lists and empty ones are.
func alike(a, b api.Resp) bool {
	return a.Status == b.Status && slices.Equal(a.Fields, b.Fields) && bytes.Equal(a.Body, b.Body) && a.Keep == b.Keep
}

// may holds that a response may be, is written as it should be, and is read as it was.
func may(t *testing.T, r api.Resp) {
	t.Helper()
	if e := Check(r); e != api.OK {
		t.Fatalf("Check(%.300q) is %v", text(r), e)
	}
	b, e := Write(r)
	if e != api.OK || string(b) != text(r) {
		t.Fatalf("Write(%.300q) is %.300q, %v", text(r), b, e)
	}
	reads(t, text(r), 0, r, len(b))
}

// mayNot holds that a response may not be, and that what its bytes were is not read as it.
func mayNot(t *testing.T, r api.Resp) {
	t.Helper()
	if e := Check(r); e != api.ErrArg {
		t.Fatalf("Check(%.300q) is %v", text(r), e)
	}
	if b, e := Write(r); b != nil || e != api.ErrArg {
		t.Fatalf("Write(%.300q) is %.300q, %v", text(r), b, e)
	}
	if got, _, e := Read([]byte(text(r)), 0); e == api.OK && alike(got, r) {
		t.Fatalf("Read(%.300q) is what may not be", text(r))
	}
}

// mays holds whether a response may be.
func mays(t *testing.T, r api.Resp, is bool) {
	t.Helper()
	if is {
		may(t, r)
	} else {
		mayNot(t, r)
	}
}

// reads holds that at a place of bytes a response stands, up to another place.
func reads(t *testing.T, s string, at int, r api.Resp, to int) {
	t.Helper()
	if got, n, e := Read([]byte(s), at); e != api.OK || n != to || !alike(got, r) {
		t.Fatalf("Read(%.300q, %d) is %.300q, %d, %v, not %.300q, %d", s, at, text(got), n, e, text(r), to)
	}
}

// refuses holds that at a place of bytes no response stands, or that there is no such place.
func refuses(t *testing.T, s string, at int, want api.Errno) {
	t.Helper()
	if got, n, e := Read([]byte(s), at); e != want || n != 0 || !reflect.DeepEqual(got, api.Resp{}) {
		t.Fatalf("Read(%.300q, %d) is %.300q, %d, %v, not %v", s, at, text(got), n, e, want)
	}
}

// asWritten tells the bytes of a text in which lines' ends are ; as the chapter writes them.
func asWritten(s string) string { return strings.ReplaceAll(s, ";", "\r\n") }

// one tells a byte as text.
func one(x int) string { return string([]byte{byte(x)}) }

// The chapter's examples.
func TestExamples(t *testing.T) {
	r := with("a", "b")
	r.Body = []byte("x")
	s := asWritten("HTTP/1.1 200 OK;a: b;Content-Length: 1;;x")
	if b, e := Write(r); string(b) != s || e != api.OK {
		t.Errorf("%q, %v", b, e)
	}
	reads(t, s+"12345", 0, r, len(s))
	s = asWritten("HTTP/1.1 404 Not Found;Content-Type: text/plain;Content-Length: 10;Connection: close;;Not Found\n")
	if b, e := Write(Plain(404, false)); string(b) != s || e != api.OK {
		t.Errorf("%q, %v", b, e)
	}
	mayNot(t, api.Resp{Status: 201})
	mayNot(t, with("Connection", "x"))
	refuses(t, "", 0, api.ErrBytes)
	refuses(t, "", 1, api.ErrRange)
}

// Ordinary responses, as bytes: P15.1.
func TestWrite(t *testing.T) {
	for s, r := range map[string]api.Resp{
		"HTTP/1.1 200 OK;Content-Length: 0;;":                                                                                {Status: 200, Keep: true},
		"HTTP/1.1 200 OK;Content-Length: 0;Connection: close;;":                                                              {Status: 200},
		"HTTP/1.1 503 Service Unavailable;Content-Length: 3;Connection: close;;a b":                                          {Status: 503, Body: []byte("a b")},
		"HTTP/1.1 200 OK;Content-Type: application/dns-message;Cache-Control: max-age=5;Content-Length: 2;;\x00\x01":         {Status: 200, Fields: []api.Field{{Name: "Content-Type", Value: "application/dns-message"}, {Name: "Cache-Control", Value: "max-age=5"}}, Body: []byte{0, 1}, Keep: true},
		"HTTP/1.1 405 Method Not Allowed;Allow: GET, POST;a: ;A: b: c;a: \xff \x80;Content-Length: 6;Connection: close;;;;;": {Status: 405, Fields: []api.Field{{Name: "Allow", Value: "GET, POST"}, {Name: "a"}, {Name: "A", Value: "b: c"}, {Name: "a", Value: "\xff \x80"}}, Body: []byte("\r\n\r\n\r\n")},
	} {
		b, e := Write(r)
		if string(b) != asWritten(s) || e != api.OK {
			t.Errorf("%q, %v, not %q", b, e, asWritten(s))
		}
		may(t, r)
	}
	mayNot(t, api.Resp{})
	mayNot(t, api.Resp{Keep: true})
}

// statuses tells statuses that there are, those beside them, those of fewer and more digits, and those that would be others if they were cut.
func statuses() []int {
	l := []int{-1 << 63, -1 << 31, 1<<63 - 1, 1<<32 - 1}
	for n := range 10100 {
		l = append(l, n, -n)
	}
	for status := range told {
		for _, more := range []int{1 << 8, 1 << 16, 1 << 32, -1 << 16, -1 << 32, -1 << 63} {
			l = append(l, status+more)
		}
	}
	return l
}

// P15.1: each status has its reason, and no other number has one; a response has one of these.
func TestReasons(t *testing.T) {
	for _, status := range statuses() {
		want, is := told[status]
		if got := Reason(status); got != want {
			t.Fatalf("Reason(%d) is %q, not %q", status, got, want)
		}
		mays(t, api.Resp{Status: status, Keep: true}, is)
		mays(t, api.Resp{Status: status, Fields: []api.Field{{Name: "a"}}, Body: []byte("b")}, is)
	}
	if len(told) != 14 {
		t.Fatal(len(told))
	}
}

// P15.3: of each status, whether the connection goes on or not.
func TestPlain(t *testing.T) {
	for status, words := range told {
		for _, keep := range []bool{true, false} {
			r := Plain(status, keep)
			want := api.Resp{Status: status, Fields: []api.Field{{Name: "Content-Type", Value: "text/plain"}}, Body: []byte(words + "\n"), Keep: keep}
			if !alike(r, want) {
				t.Fatalf("Plain(%d, %v) is %q", status, keep, text(r))
			}
			may(t, r)
		}
	}
}

// P15.3: a status that there is not has no reason, so that what is told of it is a byte 10 alone, and may not be.
func TestPlainOfOthers(t *testing.T) {
	for _, status := range statuses() {
		if _, is := told[status]; is {
			continue
		}
		for _, keep := range []bool{true, false} {
			r := Plain(status, keep)
			want := api.Resp{Status: status, Fields: []api.Field{{Name: "Content-Type", Value: "text/plain"}}, Body: []byte{10}, Keep: keep}
			if !alike(r, want) {
				t.Fatalf("Plain(%d, %v) is %q", status, keep, text(r))
			}
			if e := Check(r); e != api.ErrArg {
				t.Fatal(status, e)
			}
		}
	}
}

// P15.1: so many fields, of the same name and of others, with and without values.
func TestFieldCount(t *testing.T) {
	for n, is := range map[int]bool{0: true, 1: true, 2: true, 15: true, 16: true, 17: false, 18: false, 32: false, 33: false, 100000: false} {
		a, b := with(), with()
		for i := range n {
			a.Fields = append(a.Fields, api.Field{Name: "a", Value: "v"})
			b.Fields = append(b.Fields, api.Field{Name: "n" + strconv.Itoa(i)})
		}
		mays(t, a, is)
		b.Keep, b.Body = false, []byte("body")
		mays(t, b, is)
	}
}

// P15.1: each byte in a field's name, at its beginning, within and at its end, in the first field and in others.
func TestNameBytes(t *testing.T) {
	for x := range 256 {
		for _, s := range []string{one(x), one(x) + "b", "a" + one(x), "a" + one(x) + "b"} {
			mays(t, with(s, ""), sample.InName(x))
			mays(t, with(s, "v"), sample.InName(x))
			mays(t, with("a", "b", s, "v", "c", "d"), sample.InName(x))
			mays(t, with("a", "b", "c", "", s, strings.Repeat("v", 3000)), sample.InName(x))
		}
	}
}

// P15.1: each byte in a field's value, at its beginning, within and at its end, in short values and in long ones.
func TestValueBytes(t *testing.T) {
	for x := range 256 {
		middle, ends := sample.InValue(x), sample.InValue(x) && x != 9 && x != 32
		mays(t, with("n", "a"+one(x)+"b"), middle)
		mays(t, with("m", "", "n", "a"+one(x)+one(x)+"b"), middle)
		for _, s := range []string{one(x), one(x) + one(x), one(x) + "b", "a" + one(x)} {
			mays(t, with("n", s), ends)
			mays(t, with("m", "", "n", s, "o", ""), ends)
		}
		long := strings.Repeat("v", 4094)
		mays(t, with("n", long+one(x)), ends)
		mays(t, with("n", one(x)+long), ends)
		for at := 1; at < 4094; at += 1 + at%187 {
			mays(t, with("n", long[:at]+one(x)+long[at:]), middle)
		}
	}
}

// P15.1: a byte at each place of a long value; blanks may stand at each but its ends.
func TestLongValues(t *testing.T) {
	long := strings.Repeat("v", 4094)
	for at := range 4095 {
		for _, x := range "\x00\r\n\t \x7f" {
			r := with("n", long[:at]+string(x)+long[at:])
			is := (x == '\t' || x == ' ') && 0 < at && at < 4094
			if e := Check(r); (e == api.OK) != is || !is && e != api.ErrArg {
				t.Fatalf("%q at %d: %v", x, at, e)
			}
		}
	}
	for _, blank := range []string{" ", "\t", " \t"} {
		for n := range 2100 {
			may(t, with("n", "a"+strings.Repeat(blank, n)[:n]+"b"))
		}
		mayNot(t, with("n", strings.Repeat(blank, 3000)+"b"))
		mayNot(t, with("n", "b"+strings.Repeat(blank, 1500)))
		mayNot(t, with("n", strings.Repeat(blank, 1500)))
	}
}

// P15.1: names of so many bytes.
func TestNameLengths(t *testing.T) {
	for n, is := range map[int]bool{0: false, 1: true, 2: true, 63: true, 64: true, 65: false, 66: false, 1000: false, 4000: false, 100000: false} {
		for _, value := range []string{"", "v", strings.Repeat("v", 90)} {
			mays(t, with(strings.Repeat("n", n), value), is)
			mays(t, with("a", "", strings.Repeat("n", n), value, "b", "c"), is)
		}
	}
}

// P15.1: values of so many bytes, of which names and values together have at most 4,096.
func TestFieldsTogether(t *testing.T) {
	for n, is := range map[int]bool{0: true, 1: true, 1022: true, 1023: true, 1024: true, 1025: true, 2047: true, 2048: true, 2049: true, 3071: true, 3072: true, 3073: true, 4094: true, 4095: true, 4096: false, 4097: false, 8192: false, 100000: false} {
		mays(t, with("n", strings.Repeat("v", n)), is)
		mays(t, with("na", strings.Repeat("v", max(0, n-1))), is)
	}
	for fields := 1; fields <= 16; fields++ {
		for n := 4090; n <= 4100; n++ {
			r := with()
			left := n
			for i := range fields {
				name := strings.Repeat("n", 1+(i*7+n)%64)
				left -= len(name)
				size := left / (fields - i)
				if i == fields-1 {
					size = left
				} else {
					size -= 40
				}
				left -= size
				r.Fields = append(r.Fields, api.Field{Name: name, Value: strings.Repeat("v", size)})
			}
			mays(t, r, n <= 4096)
		}
	}
	var names api.Resp
	names.Status = 429
	for range 16 {
		names.Fields = append(names.Fields, api.Field{Name: strings.Repeat("n", 64), Value: strings.Repeat("v", 192)})
	}
	may(t, names)
	names.Fields[15].Value += "v"
	mayNot(t, names)
}

// cases tells a word in letters of each kind.
func cases(word string) []string {
	title := ""
	for i, part := range strings.Split(word, "-") {
		if i > 0 {
			title += "-"
		}
		title += strings.ToUpper(part[:1]) + part[1:]
	}
	l := []string{word, title, strings.ToUpper(word), word[:1] + strings.ToUpper(word[1:])}
	for i := range word {
		l = append(l, word[:i]+strings.ToUpper(word[i:i+1])+word[i+1:])
	}
	return l
}

// P15.1: no field has a name that a response's bytes have besides, however it is written; names that begin so, or end so, are others.
func TestNamesOfItsOwn(t *testing.T) {
	for _, word := range []string{"content-length", "connection", "transfer-encoding"} {
		for _, name := range cases(word) {
			for _, value := range []string{"", "0", "x", "close", "chunked"} {
				mayNot(t, with(name, value))
				mayNot(t, with("a", "b", name, value))
				mayNot(t, with(name, value, "a", "b"))
			}
			for _, other := range []string{name + "s", name + "-", "x" + name, "-" + name, name[1:], name[:len(name)-1], name + name, strings.Replace(name, "-", "_", 1) + "_", "x-" + name} {
				may(t, with(other, "0"))
				may(t, with("a", "b", other, "close"))
			}
		}
		for i := range word {
			may(t, with(word[:i]+one(int(word[i])^3)+word[i+1:], "0"))
		}
	}
	for _, name := range []string{"content", "length", "close", "keep-alive", "transfer", "encoding", "content_length", "contentlength", "content-type", "host", "Host", "expect"} {
		may(t, with(name, "0", name, "x"))
	}
	mayNot(t, with("content-length", "0", "connection", "close"))
}

// P15.1: fields of any name may stand more than once, such of the name host too.
func TestSameNames(t *testing.T) {
	for _, name := range []string{"host", "Host", "a", "Content-Type", "set-cookie"} {
		r := with()
		for range 16 {
			r.Fields = append(r.Fields, api.Field{Name: name, Value: "v"})
		}
		may(t, r)
	}
}

// P15.1: bodies of so many bytes, of any kind, and how long they are.
func TestBodies(t *testing.T) {
	random := sample.New()
	for _, n := range []int{0, 1, 2, 9, 10, 11, 99, 100, 101, 999, 1000, 9999, 10000, 65534, 65535} {
		for _, keep := range []bool{true, false} {
			for _, body := range []string{strings.Repeat("b", n), strings.Repeat("\r\n", n)[:n], strings.Repeat("\x00\xff", n)[:n], random.Bytes(n)} {
				r := with("a", "b")
				r.Body, r.Keep = []byte(body), keep
				may(t, r)
				may(t, api.Resp{Status: 404, Body: r.Body, Keep: keep})
			}
		}
	}
	for _, n := range []int{65536, 65537, 70000, 100000, 131071, 131072, 1 << 20} {
		for _, keep := range []bool{true, false} {
			mayNot(t, api.Resp{Status: 200, Body: make([]byte, n), Keep: keep})
		}
	}
}

// P15.1: what is wrong in one place is so whatever stands in the others; two wrongs are no better.
func TestWrongs(t *testing.T) {
	wrongs := []func(r *api.Resp){
		func(r *api.Resp) { r.Status = 201 },
		func(r *api.Resp) { r.Status = 0 },
		func(r *api.Resp) { r.Body = make([]byte, 65536) },
		func(r *api.Resp) { r.Fields = append(r.Fields, api.Field{}) },
		func(r *api.Resp) { r.Fields = append(r.Fields, api.Field{Name: "a:"}) },
		func(r *api.Resp) { r.Fields = append([]api.Field{{Name: "a", Value: " b"}}, r.Fields...) },
		func(r *api.Resp) { r.Fields = append(r.Fields, api.Field{Name: "CONNECTION"}) },
		func(r *api.Resp) { r.Fields = append(r.Fields, slices.Repeat([]api.Field{{Name: "a"}}, 17)...) },
		func(r *api.Resp) {
			r.Fields = append(r.Fields, api.Field{Name: "a", Value: strings.Repeat("b", 2048)}, api.Field{Name: "a", Value: strings.Repeat("b", 2048)})
		},
		func(r *api.Resp) { r.Keep = false },
		func(r *api.Resp) { r.Body = append(r.Body, "other"...) },
	}
	right := len(wrongs) - 2
	for i, a := range wrongs {
		for j, b := range wrongs {
			for _, status := range slices.Sorted(maps.Keys(told)) {
				r := with("c", "d")
				r.Status = status
				b(&r)
				a(&r)
				if e := Check(r); (e == api.OK) != (i >= right && j >= right) || e != api.OK && e != api.ErrArg {
					t.Fatal(i, j, status, e)
				}
			}
		}
	}
}
