package frame

import (
	"strings"
	"testing"

	"ostiary/api"
	"ostiary/sample"
)

// broken tells the error of a length, or that it is none.
func broken(n, most int) api.Errno {
	switch {
	case n < 12:
		return api.ErrBytes
	case n > most:
		return api.ErrLong
	default:
		return api.OK
	}
}

// breaks holds that a piece breaks a reader, and that the reader stays so.
func breaks(t *testing.T, r *Reader, piece string, e api.Errno, want ...string) {
	t.Helper()
	pushes(t, r, piece, e, want...)
	stands(t, r, 0, 0, true)
	for _, more := range []string{"", "\x00", "\x00\x0c", framed("abcdefghijkl"), strings.Repeat("\xff", 100), "\x00\x00"} {
		if l, e := r.Push([]byte(more)); l != nil || e != api.ErrState {
			t.Fatalf("a broken reader: Push(%q) = %v, %v", more, l, e)
		}
		stands(t, r, 0, 0, true)
	}
	if l, e := r.Push(nil); l != nil || e != api.ErrState {
		t.Fatalf("a broken reader: Push(nil) = %v, %v", l, e)
	}
}

// P12.2: each length that there is, as the first one, of some mosts: below 12 and above the most it breaks the reader, else its message is missing.
func TestEachLength(t *testing.T) {
	for _, most := range []int{12, 13, 254, 255, 256, 257, 511, 512, 4096, 32767, 32768, 65534, 65535} {
		for n := range 65536 {
			r, _ := New(most)
			l, e := r.Push([]byte(word(n)))
			if l != nil || e != broken(n, most) {
				t.Fatalf("most %d, length %d: %v, %v", most, n, l, e)
			}
			if e == api.OK {
				stands(t, r, 2, n, false)
			} else {
				stands(t, r, 0, 0, true)
			}
		}
	}
}

// P12.2: a length that is the least and the most, one below and one above each, of each most.
func TestEachMost(t *testing.T) {
	for most := 12; most <= 65535; most++ {
		for _, n := range []int{0, 1, 11, 12, most - 1, most, most + 1, 65535} {
			if n > 65535 {
				continue
			}
			r, _ := New(most)
			if l, e := r.Push([]byte(word(n))); l != nil || e != broken(n, most) || r.Broken() != (e != api.OK) {
				t.Fatalf("most %d, length %d: %v, %v", most, n, l, e)
			}
		}
	}
}

// P12.2: a length that may not be, as the first one: whole, with bytes behind it, and in part.
func TestBrokenAtOnce(t *testing.T) {
	for _, most := range []int{12, 13, 300, 65534, 65535} {
		for _, n := range []int{0, 1, 2, 10, 11, most + 1, most + 2, 65535} {
			if n > 65535 || n == most {
				continue
			}
			e := broken(n, most)
			for _, behind := range []string{"", "\x00", strings.Repeat("m", n), strings.Repeat("m", n) + framed("abcdefghijkl"), framed("abcdefghijkl")} {
				breaks(t, reader(t, most), word(n)+behind, e)
				r := reader(t, most)
				// A length of which one byte is missing breaks nothing yet, whatever the other one is.
				pushes(t, r, word(n)[:1], api.OK)
				stands(t, r, 1, 0, false)
				breaks(t, r, word(n)[1:]+behind, e)
			}
		}
	}
}

// P12.2: a length that may not be, behind messages that are whole: these are told, with the error, if they come in its piece, and else ahead of it.
func TestBrokenBehindMessages(t *testing.T) {
	random := sample.New()
	for _, n := range []int{0, 1, 11, 301, 302, 65535} {
		bad := word(n)
		for count := range 5 {
			var l []string
			for range count {
				l = append(l, random.Bytes(12+random.Below(289)))
			}
			e, stream := broken(n, 300), framed(l...)
			for _, behind := range []string{"", "m", framed("abcdefghijkl"), bad} {
				breaks(t, reader(t, 300), stream+bad+behind, e, l...)
				r := reader(t, 300)
				pushes(t, r, stream, api.OK, l...)
				breaks(t, r, bad+behind, e)
				r = reader(t, 300)
				pushes(t, r, stream+bad[:1], api.OK, l...)
				stands(t, r, 1, 0, false)
				breaks(t, r, bad[1:]+behind, e)
				if count > 0 {
					r = reader(t, 300)
					pushes(t, r, stream[:len(stream)-1], api.OK, l[:count-1]...)
					stands(t, r, len(l[count-1])+1, 1, false)
					breaks(t, r, stream[len(stream)-1:]+bad+behind, e, l[count-1])
				}
			}
		}
	}
}

// P12.2: the first length that may not be tells the error, whatever others come behind it.
func TestFirstBroken(t *testing.T) {
	m := "abcdefghijkl"
	breaks(t, reader(t, 12), framed(m)+"\x00\x0b"+framed(m)+"\x00\x0d", api.ErrBytes, m)
	breaks(t, reader(t, 12), framed(m)+"\x00\x0d"+framed(m)+"\x00\x0b", api.ErrLong, m)
	breaks(t, reader(t, 12), framed(m, m, m)+"\x01\x00\x00\x00", api.ErrLong, m, m, m)
	breaks(t, reader(t, 12), "\x00\x00\x01\x00", api.ErrBytes)
	breaks(t, reader(t, 65535), framed(m, m)+"\x00\x00", api.ErrBytes, m, m)
}

// P12.2: a reader that breaks breaks no other one, and one of the same most may be made anew.
func TestBrokenAlone(t *testing.T) {
	m := "abcdefghijkl"
	a, b := reader(t, 12), reader(t, 12)
	pushes(t, b, framed(m)[:9], api.OK)
	breaks(t, a, framed(m)[:14]+"\x00\x0b", api.ErrBytes, m)
	stands(t, b, 9, 5, false)
	pushes(t, b, framed(m)[9:], api.OK, m)
	pushes(t, reader(t, 12), framed(m, m), api.OK, m, m)
}

// P12.2: a length of a message's bytes is none: what looks as if it may not be, within a message, breaks nothing.
func TestLengthsWithinMessages(t *testing.T) {
	for _, m := range []string{strings.Repeat("\x00", 12), strings.Repeat("\xff", 13), "\x00" + strings.Repeat("\x00\x0b", 20), strings.Repeat("\x00\x0c", 30), strings.Repeat("\xff\x00", 128)} {
		r := reader(t, len(m))
		pushes(t, r, framed(m, m), api.OK, m, m)
		for i := range len(m) + 2 {
			r.Push([]byte(framed(m)[:i]))
			pushes(t, r, framed(m)[i:]+framed(m), api.OK, m, m)
		}
	}
}
