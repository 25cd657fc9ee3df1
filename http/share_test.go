package http

import (
	"bytes"
	"slices"
	"strings"
	"testing"

	"ostiary/api"
	"ostiary/sample"
)

// turn turns each bit of bytes, and of the room behind them.
func turn(b []byte) {
	b = b[:cap(b)]
	for i := range b {
		b[i] = ^b[i]
	}
}

// spoil writes on all of an item that can be written on.
func spoil(x api.Item) {
	turn(x.Body)
	fields := x.Head.Fields[:cap(x.Head.Fields)]
	for i := range fields {
		fields[i] = api.Field{Name: "spoilt", Value: "spoilt"}
	}
}

// bare holds that nothing stands in the room behind items, behind their bodies and behind their fields.
func bare(t *testing.T, l []api.Item) {
	t.Helper()
	for _, x := range l[len(l):cap(l)] {
		if !alike(x, api.Item{}) || x.Head.Fields != nil || x.Body != nil {
			t.Fatalf("behind %d items stands %s", len(l), text([]api.Item{x}))
		}
	}
	for _, x := range l {
		if room := x.Body[len(x.Body):cap(x.Body)]; !bytes.Equal(room, make([]byte, len(room))) {
			t.Fatalf("behind a body of %d bytes stands %.100q", len(x.Body), room)
		}
		room := x.Head.Fields[len(x.Head.Fields):cap(x.Head.Fields)]
		if slices.ContainsFunc(room, func(f api.Field) bool { return f != (api.Field{}) }) {
			t.Fatalf("behind %d fields stands %q", len(x.Head.Fields), room)
		}
	}
}

// Rule 4: pieces stay as they are, their room too, which is not looked at; and who writes on them later changes neither what was told nor what is to be told.
func TestPiecesStay(t *testing.T) {
	random := sample.New()
	for range 3000 {
		s := some(random)
		r := New()
		var got []api.Item
		for _, piece := range random.Cuts(s, 1+random.Below(400)) {
			rooms := sample.Rooms(piece)
			b := rooms[random.Below(len(rooms))]
			ahead := slices.Clone(b[:cap(b)])
			told, _ := r.Push(b)
			if !bytes.Equal(b[:cap(b)], ahead) {
				t.Fatalf("Push of %d bytes left %q of %q", len(piece), b[:cap(b)], ahead)
			}
			turn(b)
			got = append(got, told...)
		}
		want := readAll(s)
		if !slices.EqualFunc(got, want.told, alike) {
			t.Fatalf("%s, not %s", text(got), text(want.told))
		}
		stands(t, r, want.left, want.over)
	}
}

// Rule 4: the room behind a piece does not end a head, nor go on with a body.
func TestRoomBehindPieces(t *testing.T) {
	s := []byte(get + post + "ab" + strings.Repeat("a", 5000))
	for at := range len(get) {
		r := New()
		pushes(t, r, "")
		if l, e := r.Push(s[:at]); l != nil || e != api.OK {
			t.Fatal(at, l, e)
		}
		stands(t, r, at, false)
	}
	for at := range len(post) + 2 {
		r := New()
		l, e := r.Push(s[:len(get)+at])
		if !slices.EqualFunc(l, []api.Item{gets()}, alike) || e != api.OK {
			t.Fatal(at, l, e)
		}
		stands(t, r, at, false)
	}
	r := New()
	if l, e := r.Push(s[len(get)+len(post)+2:][:4096]); l != nil || e != api.OK {
		t.Fatal(l, e)
	}
	stands(t, r, 4096, false)
}

// Rule 4: an item that was told is the caller's, its room too, and so is the list: who writes on them changes no other item, and nothing that is kept or to be told.
func TestItemsAreNew(t *testing.T) {
	random := sample.New()
	for range 2000 {
		s := some(random)
		r := New()
		var got []api.Item
		for _, piece := range random.Cuts(s, 1+random.Below(3000)) {
			told, _ := r.Push([]byte(piece))
			bare(t, told)
			got = append(got, told...)
			clear(told[:cap(told)])
			// Every other item is written on as soon as it is told, when others are still to come.
			for i := len(got) - len(told); i < len(got); i++ {
				if i%2 == 1 {
					spoil(got[i])
				}
			}
		}
		want := readAll(s)
		if len(got) != len(want.told) {
			t.Fatalf("%d items, not %d", len(got), len(want.told))
		}
		for i, x := range got {
			if i%2 == 0 && !alike(x, want.told[i]) {
				t.Fatalf("item %d of %d became %s, not %s", i, len(got), text(got[i:i+1]), text(want.told[i:i+1]))
			}
		}
		stands(t, r, want.left, want.over)
	}
}

// Rule 4: what was told stays as it was by later calls, whatever they bring, and also where the reader is over.
func TestItemsStay(t *testing.T) {
	r := New()
	h, want := with(strings.Repeat("\r\n\r\nbody", 100))
	s := h + string(want.Body)
	piece := []byte(s + s + s[:200])
	l, e := r.Push(piece)
	turn(piece)
	spoil(l[1])
	if e != api.OK || !alike(l[0], want) {
		t.Fatal(text(l), e)
	}
	pushes(t, r, s[200:]+s+s[:700], want, want)
	pushes(t, r, s[700:]+s[:len(h)], want)
	ends(t, r, s[len(h):]+strings.Repeat("x", 70000), want, alone(431))
	if !alike(l[0], want) {
		t.Fatal(text(l[:1]))
	}
}

// Rule 4: what a head says is kept while its body is waited for, and is new where it is told: no call between, and nobody that has an item, writes on it.
func TestHeadWaits(t *testing.T) {
	h, want := with("body")
	r := New()
	l, _ := r.Push([]byte(get + h))
	spoil(l[0])
	for _, x := range strings.Split("bod", "") {
		pushes(t, r, x)
		pushes(t, New(), get, gets())
	}
	pushes(t, r, "y"+get, want, gets())
}

// P14.1: readers beside each other know nothing of each other.
func TestSideBySide(t *testing.T) {
	random := sample.New()
	type beside struct {
		r      *Reader
		s      string
		pieces []string
		got    []api.Item
	}
	var all []*beside
	for range 60 {
		s := some(random)
		all = append(all, &beside{r: New(), s: s, pieces: random.Cuts(s, 60)})
	}
	for left := true; left; {
		left = false
		for _, x := range all {
			if len(x.pieces) == 0 {
				continue
			}
			left = true
			l, _ := x.r.Push([]byte(x.pieces[0]))
			x.got, x.pieces = append(x.got, l...), x.pieces[1:]
		}
	}
	for _, x := range all {
		want := readAll(x.s)
		if !slices.EqualFunc(x.got, want.told, alike) {
			t.Fatalf("%s, not %s", text(x.got), text(want.told))
		}
		stands(t, x.r, want.left, want.over)
	}
}
