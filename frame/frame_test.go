package frame

import (
	"bytes"
	"math"
	"slices"
	"strings"
	"testing"

	"ostiary/api"
	"ostiary/sample"
)

// word tells a number from 0 to 65,535 as a length.
func word(n int) string { return sample.Word(n, 2) }

// framed tells messages as a stream, whatever their lengths are.
func framed(messages ...string) string {
	var s strings.Builder
	for _, m := range messages {
		s.WriteString(word(len(m)) + m)
	}
	return s.String()
}

// puts holds that Put tells the frame of these bytes.
func puts(t *testing.T, m string) {
	t.Helper()
	if b, e := Put([]byte(m)); string(b) != word(len(m))+m || e != api.OK {
		t.Fatalf("Put(%d bytes) = %d bytes, %v", len(m), len(b), e)
	}
}

// refuses holds that Put tells this error of these bytes, and nothing else.
func refuses(t *testing.T, b []byte, want api.Errno) {
	t.Helper()
	if f, e := Put(b); f != nil || e != want {
		t.Fatalf("Put(%d bytes) = %d bytes, %v, not %v", len(b), len(f), e, want)
	}
}

// reader tells a new reader.
func reader(t *testing.T, most int) *Reader {
	t.Helper()
	r, e := New(most)
	if r == nil || e != api.OK {
		t.Fatalf("New(%d) = %v, %v", most, r, e)
	}
	stands(t, r, 0, 0, false)
	return r
}

// stands holds how many bytes a reader keeps, how many it misses, and whether it is broken.
func stands(t *testing.T, r *Reader, left, want int, broken bool) {
	t.Helper()
	if r.Left() != left || r.Want() != want || r.Broken() != broken {
		t.Fatalf("it keeps %d, misses %d, and is broken: %v; not %d, %d, %v", r.Left(), r.Want(), r.Broken(), left, want, broken)
	}
}

// pushes holds which messages a piece makes whole, and the error.
func pushes(t *testing.T, r *Reader, piece string, e api.Errno, want ...string) {
	t.Helper()
	if got, err := r.Push([]byte(piece)); !same(got, want) || err != e {
		t.Fatalf("Push(%d bytes) = %d messages, %v, not %d, %v", len(piece), len(got), err, len(want), e)
	}
}

// same tells whether messages are these.
func same(got [][]byte, want []string) bool {
	return slices.EqualFunc(got, want, func(b []byte, s string) bool { return string(b) == s })
}

// The chapter's examples, one by one.
func TestExamples(t *testing.T) {
	m := "abcdefghijkl"
	puts(t, m)
	refuses(t, []byte(m[:11]), api.ErrBytes)
	r := reader(t, 12)
	pushes(t, r, "\x00", api.OK)
	stands(t, r, 1, 0, false)
	pushes(t, r, "\x0ca", api.OK)
	stands(t, r, 3, 11, false)
	pushes(t, r, m[1:]+"\x00\x0d", api.ErrLong, m)
	stands(t, r, 0, 0, true)
	pushes(t, r, "", api.ErrState)
	stands(t, r, 0, 0, true)
	for _, most := range []int{11, 65536} {
		if r, e := New(most); r != nil || e != api.ErrArg {
			t.Errorf("New(%d) = %v, %v", most, r, e)
		}
	}
}

// P12.1: messages of each length at which something begins or ends, and of many others, have their length ahead of them.
func TestPut(t *testing.T) {
	random := sample.New()
	lengths := []int{12, 13, 127, 128, 254, 255, 256, 257, 511, 512, 4095, 4096, 32767, 32768, 32769, 65279, 65280, 65281, 65533, 65534, 65535}
	for n := 14; n < 1100; n++ {
		lengths = append(lengths, n)
	}
	for range 100 {
		lengths = append(lengths, 12+random.Below(65524))
	}
	for _, n := range lengths {
		puts(t, random.Bytes(n))
		puts(t, strings.Repeat("\x00", n))
		puts(t, strings.Repeat("\xff", n))
	}
}

// P12.1: what has fewer bytes than 12, or more than 65,535, is no message, whatever stands in it or behind it.
func TestPutNoMessage(t *testing.T) {
	refuses(t, nil, api.ErrBytes)
	for n := range 12 {
		refuses(t, make([]byte, n), api.ErrBytes)
		refuses(t, bytes.Repeat([]byte{255}, n), api.ErrBytes)
		refuses(t, make([]byte, 100)[:n], api.ErrBytes)
	}
	for _, n := range []int{65536, 65537, 65536 + 11, 65536 + 12, 65536 + 13, 1 << 17, 1<<17 - 1, 1<<17 + 12, 1 << 24, 1<<24 + 12} {
		refuses(t, make([]byte, n), api.ErrLong)
	}
}

// P12.2: each most from 12 to 65,535 is that of a reader, which keeps nothing, and is another one each time.
func TestNew(t *testing.T) {
	var last *Reader
	for most := 12; most <= 65535; most++ {
		r := reader(t, most)
		if r == last {
			t.Fatalf("New(%d) tells a reader that is there", most)
		}
		last = r
	}
	a, b := reader(t, 12), reader(t, 12)
	pushes(t, a, "\x00\x0cabc", api.OK)
	stands(t, a, 5, 9, false)
	stands(t, b, 0, 0, false)
	pushes(t, b, "\x00\x0d", api.ErrLong)
	stands(t, a, 5, 9, false)
	stands(t, reader(t, 12), 0, 0, false)
}

// P12.2: no other most is that of a reader.
func TestNewNoMost(t *testing.T) {
	mosts := []int{math.MinInt, math.MinInt + 1, math.MinInt + 12, -1 << 32, -1<<32 + 12, -65535, -65524, -100, -12, 65536, 65537, 65548, 1 << 17, 1<<31 - 1, 1 << 31, 1 << 32, 1<<32 + 12, 1<<32 + 65535, 1 << 62, math.MaxInt - 1, math.MaxInt}
	for n := -11; n < 12; n++ {
		mosts = append(mosts, n)
	}
	for _, most := range mosts {
		if r, e := New(most); r != nil || e != api.ErrArg {
			t.Errorf("New(%d) = %v, %v", most, r, e)
		}
	}
}

// Rule 5: a reader that is nil, or that New did not make, answers ErrNil, and zero values else, whatever is pushed; so does a copy.
func TestNoReader(t *testing.T) {
	r := reader(t, 100)
	pushes(t, r, "\x00\x0cab", api.OK)
	copied := *r
	broken := reader(t, 100)
	pushes(t, broken, "\x00\x00", api.ErrBytes)
	brokenToo := *broken
	made := Reader{most: 100}
	for _, x := range []*Reader{nil, {}, new(Reader), &made, &copied, &brokenToo} {
		for _, piece := range []string{"", "\x00", "\x00\x00", "\x00\x0d", "\xff\xff", framed("abcdefghijkl"), "cdefghijkl"} {
			if l, e := x.Push([]byte(piece)); l != nil || e != api.ErrNil {
				t.Errorf("Push(%q) = %v, %v", piece, l, e)
			}
			stands(t, x, 0, 0, false)
		}
		if l, e := x.Push(nil); l != nil || e != api.ErrNil {
			t.Errorf("Push(nil) = %v, %v", l, e)
		}
	}
	stands(t, r, 4, 10, false)
	pushes(t, r, "cdefghijkl", api.OK, "abcdefghijkl")
	stands(t, broken, 0, 0, true)
}

// P12.2: pieces of no bytes change nothing, wherever they come.
func TestNoBytes(t *testing.T) {
	m := strings.Repeat("m", 300)
	r := reader(t, 300)
	for i, piece := range strings.Split(framed(m, m, m[:12]), "") {
		for range 3 {
			left, want := r.Left(), r.Want()
			pushes(t, r, "", api.OK)
			if l, e := r.Push(nil); l != nil || e != api.OK {
				t.Fatal(i, l, e)
			}
			if l, e := r.Push([]byte("\x00\x00\x00")[:0]); l != nil || e != api.OK {
				t.Fatal(i, l, e)
			}
			stands(t, r, left, want, false)
		}
		r.Push([]byte(piece))
	}
	stands(t, r, 0, 0, false)
}

// P12.2, P12.3: where a piece ends: with a length's first byte, with a whole length, a byte behind it, a byte ahead of the message's end, at it, and behind it.
func TestWhereAPieceEnds(t *testing.T) {
	random := sample.New()
	for _, n := range []int{12, 13, 255, 256, 257, 511, 512, 1000, 65534, 65535} {
		m, next := random.Bytes(n), random.Bytes(12)
		stream := framed(m, next)
		for _, ahead := range []string{"", framed(random.Bytes(12)), framed(random.Bytes(300), random.Bytes(13))} {
			for _, x := range []struct{ cut, left, want, whole int }{
				{0, 0, 0, 0}, {1, 1, 0, 0}, {2, 2, n, 0}, {3, 3, n - 1, 0}, {n / 2, n / 2, n/2 + n%2 + 2, 0}, {n, n, 2, 0}, {n + 1, n + 1, 1, 0},
				{n + 2, 0, 0, 1}, {n + 3, 1, 0, 1}, {n + 4, 2, 12, 1}, {n + 5, 3, 11, 1}, {n + 15, 13, 1, 1}, {n + 16, 0, 0, 2},
			} {
				r := reader(t, 65535)
				if _, e := r.Push([]byte(ahead + stream[:x.cut])); e != api.OK {
					t.Fatal(n, x.cut, e)
				}
				stands(t, r, x.left, x.want, false)
				pushes(t, r, stream[x.cut:], api.OK, []string{m, next}[x.whole:]...)
				stands(t, r, 0, 0, false)
			}
		}
	}
}

// P12.3: what a reader misses becomes less with each byte, and what it keeps more.
func TestLeftAndWant(t *testing.T) {
	for _, n := range []int{12, 13, 255, 256, 300, 5000} {
		r := reader(t, n)
		m := strings.Repeat("\x00", n)
		for range 3 {
			pushes(t, r, word(n)[:1], api.OK)
			stands(t, r, 1, 0, false)
			pushes(t, r, word(n)[1:], api.OK)
			stands(t, r, 2, n, false)
			for i := 1; i < n; i++ {
				pushes(t, r, "\x00", api.OK)
				stands(t, r, 2+i, n-i, false)
			}
			pushes(t, r, "\x00", api.OK, m)
			stands(t, r, 0, 0, false)
		}
	}
}
