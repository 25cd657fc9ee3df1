package frame

import (
	"bytes"
	"slices"
	"strings"
	"testing"

	"ostiary/api"
	"ostiary/sample"
)

// turn turns each bit of bytes, and of the room behind them.
func turn(b []byte) {
	b = b[:cap(b)]
	for i := range b {
		b[i] = ^b[i]
	}
}

// empty holds that nothing stands in the room behind bytes.
func empty(t *testing.T, b []byte) {
	t.Helper()
	if room := b[len(b):cap(b)]; !bytes.Equal(room, make([]byte, len(room))) {
		t.Fatalf("behind %d bytes stands %q", len(b), room)
	}
}

// Rule 4: a message that is put into a frame stays as it is, its room too; the frame is new each time, its room too.
func TestPutShares(t *testing.T) {
	random := sample.New()
	for _, n := range []int{12, 13, 14, 30, 31, 62, 63, 64, 254, 255, 256, 4094, 65533, 65534, 65535} {
		m := random.Bytes(n)
		for _, b := range sample.Rooms(m) {
			ahead := slices.Clone(b[:cap(b)])
			one, _ := Put(b)
			two, _ := Put(b)
			if !bytes.Equal(b[:cap(b)], ahead) {
				t.Fatalf("Put of %d bytes changed them, or what is behind them", n)
			}
			empty(t, one)
			turn(two)
			if !bytes.Equal(b[:cap(b)], ahead) {
				t.Fatalf("who writes on the frame of %d bytes writes on them", n)
			}
			turn(b)
			if string(one) != framed(m) {
				t.Fatalf("who writes on %d bytes, or on a frame of them, writes on their frame", n)
			}
		}
	}
}

// Rule 4: pieces stay as they are, their room too, which is not looked at; and who writes on them later changes neither what was told nor what is to be told.
func TestPiecesStay(t *testing.T) {
	random := sample.New()
	for range 3000 {
		l := []string{random.Bytes(12 + random.Below(80)), random.Bytes(12 + random.Below(80)), random.Bytes(12 + random.Below(80))}
		r := reader(t, 91)
		var got [][]byte
		for _, piece := range random.Cuts(framed(l...), 1+random.Below(150)) {
			rooms := sample.Rooms(piece)
			b := rooms[random.Below(len(rooms))]
			ahead := slices.Clone(b[:cap(b)])
			told, e := r.Push(b)
			if e != api.OK || !bytes.Equal(b[:cap(b)], ahead) {
				t.Fatalf("Push of %d bytes: %v; it left %q of %q", len(piece), e, b[:cap(b)], ahead)
			}
			turn(b)
			got = append(got, told...)
		}
		if !same(got, l) {
			t.Fatalf("%q is told, not %q", got, l)
		}
	}
}

// Rule 4: a message that was told is the caller's, its room too: who writes on it, or on the list, changes no other message, no other list, and nothing that is to be told.
func TestMessagesAreNew(t *testing.T) {
	random := sample.New()
	for range 2000 {
		var l []string
		for range 2 + random.Below(5) {
			l = append(l, random.Bytes(12+random.Below(100)))
		}
		r := reader(t, 111)
		var got [][]byte
		for _, piece := range random.Cuts(framed(l...), 1+random.Below(250)) {
			told, _ := r.Push([]byte(piece))
			for _, m := range told {
				empty(t, m)
			}
			if room := told[len(told):cap(told)]; slices.ContainsFunc(room, func(b []byte) bool { return b != nil }) {
				t.Fatalf("behind %d messages stands %q", len(told), room)
			}
			got = append(got, told...)
			clear(told[:cap(told)])
			// Every other message is written on as soon as it is told, when others are still to come.
			for i := len(got) - len(told); i < len(got); i++ {
				if i%2 == 1 {
					turn(got[i])
				}
			}
		}
		for i, m := range got {
			if i%2 == 0 && string(m) != l[i] {
				t.Fatalf("message %d of %d became %q, not %q", i, len(l), m, l[i])
			}
		}
		if len(got) != len(l) {
			t.Fatalf("%d messages, not %d", len(got), len(l))
		}
	}
}

// Rule 4: messages that were told ahead of a length that breaks share nothing either.
func TestMessagesOfABrokenOne(t *testing.T) {
	a, b := strings.Repeat("a", 40), strings.Repeat("b", 12)
	r := reader(t, 40)
	piece := []byte(framed(a, b) + "\x00\x29" + a)
	l, e := r.Push(piece)
	if !same(l, []string{a, b}) || e != api.ErrLong {
		t.Fatal(l, e)
	}
	turn(piece)
	for _, m := range l {
		empty(t, m)
	}
	turn(l[0])
	if string(l[1]) != b {
		t.Fatal(l[1])
	}
	stands(t, r, 0, 0, true)
}

// Rule 7: a call that was refused leaves nothing behind, and readers go on side by side.
func TestSideBySide(t *testing.T) {
	random := sample.New()
	type one struct {
		r      *Reader
		pieces []string
		want   []string
		got    [][]byte
	}
	var all []*one
	for range 20 {
		x := &one{r: reader(t, 65535)}
		for range 30 {
			x.want = append(x.want, random.Bytes(12+random.Below(60)))
		}
		x.pieces = random.Cuts(framed(x.want...), 30)
		all = append(all, x)
	}
	for left := true; left; {
		left = false
		for _, x := range all {
			if len(x.pieces) == 0 {
				continue
			}
			left = true
			Put(nil)
			New(11)
			l, e := x.r.Push([]byte(x.pieces[0]))
			if e != api.OK {
				t.Fatal(e)
			}
			x.got, x.pieces = append(x.got, l...), x.pieces[1:]
		}
	}
	for _, x := range all {
		if !same(x.got, x.want) {
			t.Fatalf("%q, not %q", x.got, x.want)
		}
	}
}
