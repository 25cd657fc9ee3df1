package resp

import (
	"bytes"
	"slices"
	"strings"
	"testing"
	"unsafe"

	"ostiary/api"
	"ostiary/sample"
)

// turn turns each bit of bytes, and of the room behind them.
func turn(b []byte) {
	b = b[:cap(b)]
	for i := range b {
		b[i] = ^b[i]
	}
}

// spoil writes on all of a response that can be written on.
func spoil(r api.Resp) {
	turn(r.Body)
	fields := r.Fields[:cap(r.Fields)]
	for i := range fields {
		fields[i] = api.Field{Name: "spoilt", Value: "spoilt"}
	}
}

// bare holds that nothing stands in the room behind bytes, nor behind fields.
func bare(t *testing.T, b []byte, l []api.Field) {
	t.Helper()
	if room := b[len(b):cap(b)]; !bytes.Equal(room, make([]byte, len(room))) {
		t.Fatalf("behind %.100q stands %q", b, room)
	}
	room := l[len(l):cap(l)]
	if slices.ContainsFunc(room, func(f api.Field) bool { return f != (api.Field{}) }) {
		t.Fatalf("behind %d fields stands %q", len(l), room)
	}
}

// roomy tells a response as it is, behind whose fields and body there is room in which others stand; and a test that all of it is as it was.
func roomy(r api.Resp) (api.Resp, func(t *testing.T)) {
	was := r
	fields, all := sample.RoomyFields(r.Fields)
	r.Fields = fields
	body := slices.Concat(r.Body, []byte(text(with("a", "b"))))
	r.Body = slices.Clone(body)[:len(r.Body)]
	return r, func(t *testing.T) {
		t.Helper()
		if r.Status != was.Status || r.Keep != was.Keep || !slices.Equal(r.Fields[:len(all)], all) || !bytes.Equal(r.Body[:len(body)], body) {
			t.Fatalf("%.300q became %.300q", text(was), text(r))
		}
	}
}

// Rule 4: a response that is handed in stays as it is, its room too, which is not looked at; its bytes are new each time.
func TestResponsesStay(t *testing.T) {
	random := sample.New()
	l := append(few(), api.Resp{}, with("a", " b"), with("connection", ""), api.Resp{Status: 200, Body: make([]byte, 65536)}, api.Resp{Status: 201, Body: []byte("b")})
	for range 1500 {
		l = append(l, some(random))
	}
	for _, was := range l {
		r, stays := roomy(was)
		e := Check(r)
		if e != Check(was) {
			t.Fatalf("the room behind the fields or the body of %.300q is looked at", text(was))
		}
		stays(t)
		one, first := Write(r)
		two, second := Write(r)
		stays(t)
		if first != e || second != e {
			t.Fatal(e, first, second)
		}
		bare(t, one, nil)
		turn(two)
		stays(t)
		spoil(r)
		if e == api.OK && string(one) != text(was) || e != api.OK && one != nil {
			t.Fatalf("%.300q became %.300q", text(was), one)
		}
	}
}

// Rule 4: bytes that are read stay as they are, their room too, which is not looked at; the response is new each time, its room too.
func TestBytesStay(t *testing.T) {
	random := sample.New()
	for range 1500 {
		s := text(some(random))
		switch random.Below(4) {
		case 0:
			s = s[:random.Below(len(s))]
		case 1:
			s += random.Bytes(random.Below(5))
		}
		want, size, is := read(s)
		for _, b := range sample.Rooms("ab" + s) {
			ahead := slices.Clone(b[:cap(b)])
			r, to, e := Read(b, 2)
			other, _, _ := Read(b, 2)
			if (e == api.OK) != is || is && to != 2+size || !bytes.Equal(b[:cap(b)], ahead) {
				t.Fatalf("Read(%.300q): %d, %v; it left %.300q", s, to, e, b[:cap(b)])
			}
			bare(t, r.Body, r.Fields)
			turn(b)
			spoil(other)
			if !alike(r, want) {
				t.Fatalf("%.300q became %.300q", text(want), text(r))
			}
		}
	}
}

// Rule 4: the room behind bytes does not go on with a response, neither with its lines nor with its body.
func TestRoomBehindBytes(t *testing.T) {
	r := Plain(404, false)
	s := text(r)
	all := []byte(s + s)
	for n := range len(s) {
		if got, to, e := Read(all[:n], 0); e != api.ErrBytes {
			t.Fatal(n, got, to, e)
		}
	}
	for n := len(s); n < len(all); n++ {
		if got, to, e := Read(all[:n], 0); e != api.OK || to != len(s) || !alike(got, r) {
			t.Fatal(n, got, to, e)
		}
		if got, to, e := Read(all[:n], len(s)); e != api.ErrBytes {
			t.Fatal(n, got, to, e)
		}
		if _, _, e := Read(all[:n], n+1); e != api.ErrRange {
			t.Fatal(n, e)
		}
	}
}

// Rule 4: what is told of a status is new each time.
func TestPlainIsNew(t *testing.T) {
	for status := range told {
		a, b := Plain(status, true), Plain(status, true)
		bare(t, a.Body, a.Fields)
		spoil(a)
		spoil(Plain(status, false))
		if !alike(b, Plain(status, true)) || b.Fields[0].Name != "Content-Type" || string(b.Body) != told[status]+"\n" {
			t.Fatalf("%q", text(b))
		}
	}
}

// Rule 4: responses that were told stay as they were by later calls.
func TestToldStay(t *testing.T) {
	random := sample.New()
	var l, kept []api.Resp
	var bytesOf [][]byte
	for range 300 {
		r := some(random)
		b, _ := Write(r)
		got, _, _ := Read(b, 0)
		l, kept, bytesOf = append(l, r), append(kept, got), append(bytesOf, b)
		Read([]byte("HTTP/1.1 200 OK\r\n\r\n"), 0)
		Write(with("a:", ""))
	}
	for i, r := range l {
		if !alike(kept[i], r) || string(bytesOf[i]) != text(r) {
			t.Fatalf("%.300q became %.300q and %.300q", text(r), text(kept[i]), bytesOf[i])
		}
	}
}

// Rule 4: names and values that are read do not keep the bytes that they are read from, nor what stands behind their response.
func TestFieldsAreNew(t *testing.T) {
	s := text(with("name", strings.Repeat("v", 40)))
	b := []byte(s + strings.Repeat("x", 100000))
	r, _, _ := Read(b, 0)
	value := uintptr(unsafe.Pointer(unsafe.StringData(r.Fields[0].Value)))
	first := uintptr(unsafe.Pointer(unsafe.SliceData(b)))
	if first <= value && value < first+uintptr(len(b)) {
		t.Error("the value is the bytes themselves")
	}
	if len(r.Fields) != 1 || cap(r.Body) != 0 {
		t.Errorf("room for %d bytes of a body", cap(r.Body))
	}
}

// P1: what is told depends on what is handed in alone, however often it is asked.
func TestAskedAgain(t *testing.T) {
	random := sample.New()
	for range 1000 {
		r := some(random)
		b, e := Write(r)
		Write(with("a", "\x00"))
		Read([]byte("HTTP/1.1 404 OK\r\nContent-Length: 0\r\n\r\n"), 0)
		Plain(200, true)
		again, f := Write(r)
		if e != api.OK || f != api.OK || !bytes.Equal(b, again) || Reason(r.Status) != told[r.Status] {
			t.Fatalf("%.300q, %v, and %.300q, %v", b, e, again, f)
		}
	}
}
