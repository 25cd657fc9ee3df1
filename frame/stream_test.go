package frame

import (
	"strings"
	"testing"

	"ostiary/api"
	"ostiary/sample"
)

// state is what is to be known of a reader that was handed a stream's beginning.
type state struct {
	told       []string
	e          api.Errno
	left, want int
}

// read tells what a reader of this most knows, when this is what came: read as a whole, without pieces.
func read(s string, most int) state {
	var x state
	for len(s) >= 2 {
		size := 256*int(s[0]) + int(s[1])
		if x.e = broken(size, most); x.e != api.OK {
			return x
		}
		if len(s) < 2+size {
			x.left, x.want = len(s), 2+size-len(s)
			return x
		}
		x.told, s = append(x.told, s[2:2+size]), s[2+size:]
	}
	x.left = len(s)
	return x
}

// goes pushes pieces at a new reader, and holds behind each one that what is told and known is what the whole of them tells.
func goes(t *testing.T, most int, pieces ...string) {
	t.Helper()
	r, e := New(most)
	if e != api.OK {
		t.Fatal(most, e)
	}
	whole, end := strings.Join(pieces, ""), 0
	var ahead state
	for i, piece := range pieces {
		end += len(piece)
		now := read(whole[:end], most)
		want, l := now.e, now.told[len(ahead.told):]
		if ahead.e != api.OK {
			want = api.ErrState
		}
		if got, e := r.Push([]byte(piece)); !same(got, l) || e != want || e == api.ErrState && got != nil {
			t.Fatalf("most %d, piece %d of %q: %q, %v, not %q, %v", most, i, pieces, got, e, l, want)
		}
		if r.Left() != now.left || r.Want() != now.want || r.Broken() != (now.e != api.OK) || r.Left() > most+1 {
			t.Fatalf("most %d, behind piece %d of %q it keeps %d, misses %d, and is broken: %v; not %d, %d", most, i, pieces, r.Left(), r.Want(), r.Broken(), now.left, now.want)
		}
		ahead = now
	}
}

// stream tells frames, now and then with a length that may not be among them, or cut at the end.
func stream(random *sample.Source, most int) string {
	s := ""
	for range random.Below(8) {
		switch random.Below(12) {
		case 0:
			s += word(random.Below(12)) + random.Bytes(random.Below(30))
		case 1:
			s += word(min(65535, most+1+random.Below(3))) + random.Bytes(random.Below(30))
		case 2:
			s += framed(random.Bytes(most))
		case 3:
			s += framed(random.Bytes(12))
		default:
			s += framed(random.Bytes(12 + random.Below(most-11)))
		}
	}
	return s[:len(s)-random.Below(min(len(s), 20)+1)]
}

// P12.4: short streams, whole and broken ones, cut in each way in which they can be.
func TestEachWayToCut(t *testing.T) {
	for _, s := range []string{framed("abcdefghijkl") + "\x00", framed("abcdefghijkl") + "\x00\x0c", framed("\x00\x00\x00\x00\x00\x00\x00\x00\x00\x00\x00\x00") + "\x00\x0b", framed("abcdefghijklm") + "\x00", "\x00\x0babcdefghi", "\x00\x0eabcdefghi"} {
		for ways := range 1 << (len(s) - 1) {
			goes(t, 13, sample.CutAt(s, ways)...)
		}
	}
}

// P12.4: longer streams, cut into two and into three at each two places.
func TestEachTwoCuts(t *testing.T) {
	for _, s := range []string{
		framed("abcdefghijkl", "mnopqrstuvwxy", "zabcdefghijklm"),
		framed("abcdefghijkl", "mnopqrstuvwxy") + "\x00\x00" + framed("abcdefghijkl"),
		framed("abcdefghijklmn", "opqrstuvwxyz") + "\x00\x0f" + strings.Repeat("m", 15),
		framed(strings.Repeat("\x00", 14), strings.Repeat("\xff", 14)) + "\x01\x00m",
	} {
		for from := range len(s) + 1 {
			for to := from; to <= len(s); to++ {
				goes(t, 14, s[:from], s[from:to], s[to:])
			}
		}
	}
}

// P12.4: streams of many messages, in one piece, in pieces of one byte each, and of each other length.
func TestEachPieceLength(t *testing.T) {
	random := sample.New()
	var l []string
	for n := 12; n < 60; n++ {
		l = append(l, random.Bytes(n))
	}
	for _, s := range []string{framed(l...), framed(l...) + "\x00\x05mmmmm", framed(l[:20]...) + "\x00\x3c" + framed(l[20:]...)} {
		for size := 1; size < 130; size++ {
			goes(t, 59, sample.CutEach(s, size)...)
		}
		goes(t, 59, s)
	}
}

// P12.4: many streams of any kind, cut anyhow.
func TestManyStreams(t *testing.T) {
	random := sample.New()
	for range 4000 {
		most := 12 + random.Below(1+random.Below(300))
		s := stream(random, most)
		goes(t, most, s)
		for _, longest := range []int{1, 3, 20, 200} {
			goes(t, most, random.Cuts(s, longest)...)
		}
	}
}

// P12.4: bytes that may be anything.
func TestAnyBytes(t *testing.T) {
	random := sample.New()
	for range 20000 {
		b := []byte(random.Bytes(random.Below(200)))
		for i := range b {
			if random.Below(2) == 0 {
				b[i] = byte(random.Below(16))
			}
		}
		most := 12 + random.Below(60)
		if random.Below(4) == 0 {
			most = 65535
		}
		goes(t, most, random.Cuts(string(b), 1+random.Below(40))...)
	}
}

// P12.4 (P2): frames that Put told, one behind the other, are read as their messages, in whatever pieces they come.
func TestFramesBack(t *testing.T) {
	random := sample.New()
	lengths := []int{12, 13, 14, 255, 256, 257, 511, 512, 4096, 32768, 65534, 65535, 12, 65535, 65535, 13}
	for range 40 {
		lengths = append(lengths, 12+random.Below(2000))
	}
	var l []string
	var s []byte
	for _, n := range lengths {
		m := random.Bytes(n)
		f, e := Put([]byte(m))
		if e != api.OK {
			t.Fatal(n, e)
		}
		l, s = append(l, m), append(s, f...)
	}
	pushes(t, reader(t, 65535), string(s), api.OK, l...)
	for _, longest := range []int{1, 2, 13, 1000, 70000, 200000} {
		r := reader(t, 65535)
		var got [][]byte
		for _, piece := range random.Cuts(string(s), longest) {
			told, e := r.Push([]byte(piece))
			if e != api.OK || r.Left() > 65536 {
				t.Fatal(longest, e, r.Left())
			}
			got = append(got, told...)
		}
		if !same(got, l) {
			t.Fatalf("in pieces of up to %d bytes %d messages of %d are told otherwise", longest, len(got), len(l))
		}
		stands(t, r, 0, 0, false)
	}
}

// P12.2: one piece with very many messages.
func TestManyMessages(t *testing.T) {
	random := sample.New()
	var l []string
	for i := range 50000 {
		l = append(l, random.Bytes(12)+word(i))
	}
	r := reader(t, 14)
	pushes(t, r, framed(l...)+"\x00", api.OK, l...)
	stands(t, r, 1, 0, false)
	pushes(t, r, "\x0e"+framed(l...)[2:]+"\x00\x0f", api.ErrLong, l...)
	stands(t, r, 0, 0, true)
}

// P12.4 (P7): a reader never keeps more than its most and a byte, and has no room for much more, however long the pieces are that came.
func TestKeepsNoMore(t *testing.T) {
	random := sample.New()
	for _, most := range []int{12, 13, 255, 256, 1000, 65534, 65535} {
		r := reader(t, most)
		whole := framed(random.Bytes(most))
		few := strings.Repeat(framed(random.Bytes(12)), 100000/14)
		for _, piece := range []string{whole[:most+1], whole[most+1:] + whole[:most+1], whole[most+1:] + few + whole[:most+1], whole[most+1:] + whole[:1], whole[1 : most+1]} {
			if _, e := r.Push([]byte(piece)); e != api.OK || r.Left() > most+1 || r.Left() != 1 && (r.Left() != most+1 || r.Want() != 1) {
				t.Fatalf("most %d: %v, it keeps %d and misses %d", most, e, r.Left(), r.Want())
			}
			if r.kept.Cap() > 4*(most+64) {
				t.Fatalf("most %d: it has room for %d bytes", most, r.kept.Cap())
			}
		}
		if r.Push([]byte("m\xff\xff" + few)); most < 65535 && (!r.Broken() || r.Left() != 0 || r.kept.Cap() != 0) {
			t.Fatalf("most %d: a broken reader keeps %d bytes, with room for %d", most, r.Left(), r.kept.Cap())
		}
	}
}

// Who stops at a message is told no more, and the message is not told again.
func TestStopAtAMessage(t *testing.T) {
	a, b := "abcdefghijkl", "mnopqrstuvwxy"
	r := reader(t, 13)
	told := 0
	for m, e := range r.messages([]byte(framed(a, b, a))) {
		if told++; string(m) != a || e != api.OK {
			t.Fatalf("%q, %v", m, e)
		}
		break
	}
	if told != 1 {
		t.Fatal(told)
	}
	stands(t, r, 0, 0, false)
	pushes(t, r, framed(b), api.OK, b)
}
