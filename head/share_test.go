package head

import (
	"bytes"
	"slices"
	"strings"
	"testing"
	"unsafe"

	"ostiary/api"
	"ostiary/sample"
)

// stays holds that neither a head's fields nor the room behind them are otherwise than they were.
func stays(t *testing.T, h api.Head, all []api.Field) {
	t.Helper()
	if !slices.Equal(h.Fields[:len(all)], all) {
		t.Fatalf("%q became %q", all, h.Fields[:len(all)])
	}
}

// turn turns each bit of bytes, and of the room behind them.
func turn(b []byte) {
	b = b[:cap(b)]
	for i := range b {
		b[i] = ^b[i]
	}
}

// Rule 4: a head that is handed in stays as it is, its room too, which is not looked at; what is told of it is new.
func TestHeadsStay(t *testing.T) {
	for _, h := range []api.Head{with(0), with(1, "Host", "x"), with(1, "Host", "x", "content-length", "5", "connection", "keep-alive"), with(0, "a", "b", "connection", "keep-alive", "c", "d"), with(1), with(0, "", ""), with(3, "a", "b")} {
		want := h
		var all []api.Field
		h.Fields, all = sample.RoomyFields(h.Fields)
		_, hosts := Field(h, "host")
		_, others := Field(want, "host")
		size, sizeStatus := Length(h)
		wantSize, wantStatus := Length(want)
		if Check(h) != Check(want) || hosts != others || size != wantSize || sizeStatus != wantStatus || Keep(h) != Keep(want) {
			t.Fatalf("the room behind the fields of %q is looked at", text(want))
		}
		stays(t, h, all)
		one, _ := Write(h)
		two, _ := Write(h)
		stays(t, h, all)
		if room := one[len(one):cap(one)]; !bytes.Equal(room, make([]byte, len(room))) {
			t.Fatalf("behind %q stands %q", one, room)
		}
		turn(two)
		stays(t, h, all)
		clear(h.Fields[:cap(h.Fields)])
		if Check(want) == api.OK && string(one) != text(want) || Check(want) != api.OK && one != nil {
			t.Fatalf("%q became %q", text(want), one)
		}
	}
}

// Rule 4: bytes that are parsed stay as they are, their room too, which is not looked at; the head is new each time, its room too.
func TestBytesStay(t *testing.T) {
	random := sample.New()
	for range 3000 {
		s := bytesOf(random)
		want, status := read(s)
		for _, b := range sample.Rooms(s) {
			ahead := slices.Clone(b[:cap(b)])
			h, n := Parse(b)
			other, _ := Parse(b)
			if n != status || !bytes.Equal(b[:cap(b)], ahead) {
				t.Fatalf("Parse(%q): %d, %d; it left %q", s, n, status, b[:cap(b)])
			}
			turn(b)
			room := h.Fields[len(h.Fields):cap(h.Fields)]
			if slices.ContainsFunc(room, func(f api.Field) bool { return f != (api.Field{}) }) {
				t.Fatalf("behind %d fields stands %q", len(h.Fields), room)
			}
			clear(other.Fields[:cap(other.Fields)])
			if !alike(h, want) {
				t.Fatalf("%q became %q", text(want), text(h))
			}
		}
	}
}

// Rule 4: the room behind bytes does not end a head, nor go on with it.
func TestRoomBehindBytes(t *testing.T) {
	s := "GET / HTTP/1.0\r\na: b\r\n\r\n"
	for at := range len(s) {
		if h, n := Parse([]byte(s)[:at]); n != 400 {
			t.Fatal(at, h, n)
		}
	}
	if h, n := Parse([]byte(s + "c: d\r\n\r\n")[:len(s)]); n != 200 || len(h.Fields) != 1 {
		t.Fatal(h, n)
	}
	if _, n := Parse([]byte(s + strings.Repeat("x", 5000))[:len(s)]); n != 200 {
		t.Fatal(n)
	}
}

// Rule 4: a field's value is new bytes.
func TestValueIsNew(t *testing.T) {
	h := with(1, "Host", strings.Repeat("x", 40))
	value, _ := Field(h, "host")
	if value != h.Fields[0].Value || unsafe.StringData(value) == unsafe.StringData(h.Fields[0].Value) {
		t.Error("the value is that of the head itself")
	}
}

// P1: what is told depends on what is handed in alone, however often it is asked.
func TestAskedAgain(t *testing.T) {
	random := sample.New()
	for range 2000 {
		s := bytesOf(random)
		h, n := Parse([]byte(s))
		Parse([]byte("G(T / HTTP/1.0\r\n\r\n"))
		Write(with(1))
		Check(with(0, "", ""))
		again, m := Parse([]byte(s))
		if n != m || !alike(h, again) || n != 200 && (h.Fields != nil || !alike(h, api.Head{})) {
			t.Fatalf("Parse(%q) is %q, %d, and %q, %d", s, text(h), n, text(again), m)
		}
	}
}
