package http

import (
	"bytes"
	"fmt"
	"slices"
	"strings"
	"testing"

	"ostiary/api"
)

// Two requests behind which others may come.
const (
	get  = "GET / HTTP/1.0\r\nConnection: keep-alive\r\n\r\n"
	post = "POST / HTTP/1.0\r\nConnection: keep-alive\r\nContent-Length: 2\r\n\r\n"
)

// asked tells the bytes of a head: its first line, its fields, each as a line.
func asked(first string, fields ...string) string {
	return strings.Join(append([]string{first}, fields...), "\r\n") + "\r\n\r\n"
}

// head10 tells the head / of HTTP/1.0 of a method, with fields, each a name and a value.
func head10(method string, l ...string) api.Head {
	h := api.Head{Method: method, Target: "/"}
	for i := 0; i < len(l); i += 2 {
		h.Fields = append(h.Fields, api.Field{Name: l[i], Value: l[i+1]})
	}
	return h
}

// gets is what get is read as.
func gets() api.Item {
	return api.Item{Status: 200, Head: head10("GET", "Connection", "keep-alive"), Keep: true}
}

// posts is what post is read as, with a body behind it.
func posts(body string) api.Item {
	return api.Item{Status: 200, Head: head10("POST", "Connection", "keep-alive", "Content-Length", "2"), Body: []byte(body), Keep: true}
}

// alone is a status alone.
func alone(status int) api.Item { return api.Item{Status: status} }

// alike tells whether two items are the same; nil lists and empty ones are.
func alike(a, b api.Item) bool {
	return a.Status == b.Status && a.Head.Method == b.Head.Method && a.Head.Target == b.Head.Target && a.Head.Minor == b.Head.Minor &&
		slices.Equal(a.Head.Fields, b.Head.Fields) && bytes.Equal(a.Body, b.Body) && a.Keep == b.Keep
}

// text tells items, not all of what is long.
func text(l []api.Item) string {
	var all []string
	for _, x := range l {
		h := x.Head
		s := fmt.Sprintf("%d %q %.60q %d, %d fields:", x.Status, h.Method, h.Target, h.Minor, len(h.Fields))
		for _, f := range h.Fields {
			s += fmt.Sprintf(" %.60q %.60q", f.Name, f.Value)
		}
		all = append(all, fmt.Sprintf("%.400s; %d bytes: %.60q; %v", s, len(x.Body), x.Body, x.Keep))
	}
	return fmt.Sprintf("%d items %.3000s", len(l), strings.Join(all, " | "))
}

// pushes holds which items a piece makes whole.
func pushes(t *testing.T, r *Reader, piece string, want ...api.Item) {
	t.Helper()
	if got, e := r.Push([]byte(piece)); !slices.EqualFunc(got, want, alike) || e != api.OK {
		t.Fatalf("Push(%.300q) is %s, %v, not %s", piece, text(got), e, text(want))
	}
}

// stands holds how many bytes a reader keeps, and whether it is over.
func stands(t *testing.T, r *Reader, left int, over bool) {
	t.Helper()
	if r.Left() != left || r.Over() != over {
		t.Fatalf("it keeps %d, and is over: %v; not %d, %v", r.Left(), r.Over(), left, over)
	}
}

// isOver holds that a reader keeps nothing, and takes nothing any more.
func isOver(t *testing.T, r *Reader) {
	t.Helper()
	stands(t, r, 0, true)
	for _, more := range [][]byte{nil, {}, []byte("G"), []byte(get), []byte(post + "ab"), []byte("\r\n\r\n"), make([]byte, 5000)} {
		if l, e := r.Push(more); l != nil || e != api.ErrState {
			t.Fatalf("a reader that is over: Push(%.300q) is %s, %v", more, text(l), e)
		}
		stands(t, r, 0, true)
	}
}

// ends holds that a piece makes these items whole, and that the reader is over.
func ends(t *testing.T, r *Reader, piece string, want ...api.Item) {
	t.Helper()
	pushes(t, r, piece, want...)
	isOver(t, r)
}

// ways reads a stream by new readers: in one piece, with bytes behind it, byte by byte, and cut in two at each of the last places and at some others. It holds that the last byte makes the last item whole, and that the reader is over then, or is not.
func ways(t *testing.T, stream string, over bool, want ...api.Item) {
	t.Helper()
	r := New()
	pushes(t, r, stream, want...)
	stands(t, r, 0, over)
	if over {
		ends(t, New(), stream+get+"more", want...)
	} else {
		r = New()
		pushes(t, r, stream+get+"more", append(slices.Clone(want), gets())...)
		stands(t, r, 4, false)
	}
	for at := 0; at < len(stream); at = max(at+1+len(stream)/40, min(at+17, len(stream)-9)) {
		r = New()
		ahead, e := r.Push([]byte(stream[:at]))
		behind, f := r.Push([]byte(stream[at:]))
		if e != api.OK || f != api.OK || len(behind) == 0 || !slices.EqualFunc(append(ahead, behind...), want, alike) {
			t.Fatalf("cut at %d: %s, %v, and %s, %v, not %s", at, text(ahead), e, text(behind), f, text(want))
		}
		stands(t, r, 0, over)
	}
	r = New()
	var got []api.Item
	for i := range len(stream) {
		l, e := r.Push([]byte{stream[i]})
		if e != api.OK || i == len(stream)-1 && len(l) != 1 {
			t.Fatalf("byte %d of %d: %v, %v", i, len(stream), l, e)
		}
		got = append(got, l...)
	}
	if !slices.EqualFunc(got, want, alike) {
		t.Fatalf("byte by byte: %s, not %s", text(got), text(want))
	}
	stands(t, r, 0, over)
}

// The chapter's examples, one by one.
func TestExamples(t *testing.T) {
	r := New()
	pushes(t, r, get+get[:1], gets())
	stands(t, r, 1, false)
	pushes(t, r, get[1:], gets())
	stands(t, r, 0, false)
	r = New()
	pushes(t, r, post+"a")
	pushes(t, r, "b", posts("ab"))
	r = New()
	pushes(t, r, asked("GET / HTTP/1.0"), api.Item{Status: 200, Head: head10("GET")})
	stands(t, r, 0, true)
	if l, e := r.Push([]byte(get)); l != nil || e != api.ErrState {
		t.Fatal(l, e)
	}
	ends(t, New(), asked("POST / HTTP/1.0", "Connection: keep-alive"), alone(411))
	ends(t, New(), strings.Repeat("a", 4097), alone(431))
}

// P14.1: ordinary requests, with and without bodies, of both Minors.
func TestRequests(t *testing.T) {
	for _, x := range []struct {
		stream string
		want   api.Item
	}{
		{get, gets()},
		{post + "ab", posts("ab")},
		{asked("GET /dns-query?dns=AAAA HTTP/1.1", "Host: x", "Accept:\t*/* "), api.Item{Status: 200, Head: api.Head{Method: "GET", Target: "/dns-query?dns=AAAA", Minor: 1, Fields: []api.Field{{Name: "Host", Value: "x"}, {Name: "Accept", Value: "*/*"}}}, Keep: true}},
		{asked("POST /dns-query HTTP/1.1", "host:", "content-length: 5") + "a\r\n\r\n", api.Item{Status: 200, Head: api.Head{Method: "POST", Target: "/dns-query", Minor: 1, Fields: []api.Field{{Name: "host"}, {Name: "content-length", Value: "5"}}}, Body: []byte("a\r\n\r\n"), Keep: true}},
		{asked("PUT /a HTTP/1.1", "CONTENT-LENGTH: 0000000003", "Host: y", "Content-Length: 0000000003") + "\x00\xff ", api.Item{Status: 200, Head: api.Head{Method: "PUT", Target: "/a", Minor: 1, Fields: []api.Field{{Name: "CONTENT-LENGTH", Value: "0000000003"}, {Name: "Host", Value: "y"}, {Name: "Content-Length", Value: "0000000003"}}}, Body: []byte("\x00\xff "), Keep: true}},
	} {
		ways(t, x.stream, false, x.want)
		ways(t, x.stream+x.stream, false, x.want, x.want)
		ways(t, get+x.stream+post+"cd", false, gets(), x.want, posts("cd"))
		ways(t, post+"ef"+x.stream, false, posts("ef"), x.want)
	}
}

// P14.1: whether the connection goes on, of both Minors, by the field connection; where it does not, the reader is over.
func TestKeep(t *testing.T) {
	for _, x := range []struct {
		minor  string
		fields []api.Field
		keep   bool
	}{
		{"0", nil, false}, {"1", nil, true},
		{"0", []api.Field{{Name: "Connection", Value: "keep-alive"}}, true}, {"1", []api.Field{{Name: "Connection", Value: "keep-alive"}}, true},
		{"0", []api.Field{{Name: "connection", Value: "close"}}, false}, {"1", []api.Field{{Name: "CONNECTION", Value: "Close"}}, false},
		{"0", []api.Field{{Name: "connection", Value: "x"}}, false}, {"1", []api.Field{{Name: "connection", Value: ""}}, true},
		{"0", []api.Field{{Name: "connection", Value: "x, Keep-Alive"}}, true}, {"1", []api.Field{{Name: "connection", Value: "keep-alive ,close"}}, false},
		{"0", []api.Field{{Name: "connection", Value: "keep-alive"}, {Name: "connection", Value: "close"}}, false}, {"1", []api.Field{{Name: "connections", Value: "close"}}, true},
	} {
		for _, body := range []string{"", "close"} {
			h := api.Head{Method: "GET", Target: "/", Minor: int(x.minor[0] - '0'), Fields: append(slices.Clone(x.fields), api.Field{Name: "Host", Value: "close"})}
			if body != "" {
				h.Fields = append(h.Fields, api.Field{Name: "content-length", Value: "5"})
			}
			s := "GET / HTTP/1." + x.minor + "\r\n"
			for _, f := range h.Fields {
				s += f.Name + ": " + f.Value + "\r\n"
			}
			want := api.Item{Status: 200, Head: h, Body: []byte(body), Keep: x.keep}
			ways(t, s+"\r\n"+body, !x.keep, want)
			ways(t, get+post+"ab"+s+"\r\n"+body, !x.keep, gets(), posts("ab"), want)
		}
	}
}

// P14.1: a new reader keeps nothing, is not over, and is another one each time.
func TestNew(t *testing.T) {
	a, b := New(), New()
	if a == nil || a == b {
		t.Fatal(a, b)
	}
	stands(t, a, 0, false)
	pushes(t, a, "GET")
	stands(t, a, 3, false)
	stands(t, b, 0, false)
	ends(t, b, "\r\n\r\n", alone(400))
	stands(t, a, 3, false)
	stands(t, New(), 0, false)
	pushes(t, a, get[3:], gets())
}

// Rule 5: a reader that is nil, or that New did not make, answers ErrNil, and zero values else, whatever is pushed; so does a copy.
func TestNoReader(t *testing.T) {
	fresh, inHead, inBody, over := New(), New(), New(), New()
	pushes(t, inHead, get[:20])
	pushes(t, inBody, post+"a")
	pushes(t, over, asked("GET / HTTP/1.0"), api.Item{Status: 200, Head: head10("GET")})
	copies := []Reader{*fresh, *inHead, *inBody, *over}
	for _, x := range []*Reader{nil, {}, new(Reader), {kept: []byte("abc")}, &copies[0], &copies[1], &copies[2], &copies[3]} {
		for _, piece := range [][]byte{nil, {}, []byte("G"), []byte(get), []byte(get[20:]), []byte("b"), []byte("\r\n\r\n"), make([]byte, 5000)} {
			if l, e := x.Push(piece); l != nil || e != api.ErrNil {
				t.Fatalf("Push(%.300q) is %s, %v", piece, text(l), e)
			}
			stands(t, x, 0, false)
		}
	}
	stands(t, fresh, 0, false)
	stands(t, inHead, 20, false)
	stands(t, inBody, len(post)+1, false)
	stands(t, over, 0, true)
	pushes(t, fresh, get, gets())
	pushes(t, inHead, get[20:], gets())
	pushes(t, inBody, "b", posts("ab"))
}

// P14.1: pieces of no bytes change nothing, wherever they come, and however many.
func TestNoBytes(t *testing.T) {
	r := New()
	var got []api.Item
	for _, piece := range strings.Split(get+post+"\r\n"+get+post+"xy"+get[:10], "") {
		for range 3 {
			left := r.Left()
			pushes(t, r, "")
			if l, e := r.Push(nil); l != nil || e != api.OK {
				t.Fatal(l, e)
			}
			if l, e := r.Push([]byte("\r\n\r\n")[:0]); l != nil || e != api.OK {
				t.Fatal(l, e)
			}
			stands(t, r, left, false)
		}
		l, e := r.Push([]byte(piece))
		if e != api.OK {
			t.Fatal(e)
		}
		got = append(got, l...)
	}
	if want := []api.Item{gets(), posts("\r\n"), gets(), posts("xy")}; !slices.EqualFunc(got, want, alike) {
		t.Fatal(got)
	}
	stands(t, r, 10, false)
}

// P14.2: what is kept is what came of an item that is not whole, its head's bytes, too, and becomes more with each byte.
func TestLeft(t *testing.T) {
	r := New()
	for range 3 {
		for i := range len(post) + 1 {
			pushes(t, r, (post + "a")[i:i+1])
			stands(t, r, i+1, false)
		}
		pushes(t, r, "b", posts("ab"))
		stands(t, r, 0, false)
		for i := range len(get) - 1 {
			pushes(t, r, get[i:i+1])
			stands(t, r, i+1, false)
		}
		pushes(t, r, get[len(get)-1:], gets())
		stands(t, r, 0, false)
	}
	for i := range len(post) + 2 {
		r := New()
		pushes(t, r, get+get+post+"cd"+(post + "ab")[:i], gets(), gets(), posts("cd"))
		stands(t, r, i, false)
	}
}
