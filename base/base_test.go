package base

import (
	"bytes"
	"math"
	"slices"
	"strings"
	"testing"

	"ostiary/api"
	"ostiary/sample"
)

// letter tells the letter of a number by where it stands among those of its kind.
func letter(n int) byte {
	switch {
	case n < 26:
		return byte('A' + n)
	case n < 52:
		return byte('a' + n - 26)
	case n < 62:
		return byte('0' + n - 52)
	case n == 62:
		return '-'
	default:
		return '_'
	}
}

// number tells the number of a letter by looking through all of them, or -1.
func number(x byte) int {
	for n := range 64 {
		if letter(n) == x {
			return n
		}
	}
	return -1
}

// digits tells the lowest bits of a number as a text of 0 and 1.
func digits(n, count int) string {
	s := ""
	for range count {
		s = string([]byte{byte('0' + n%2)}) + s
		n /= 2
	}
	return s
}

// value tells the number that a text of 0 and 1 is.
func value(s string) int {
	n := 0
	for i := range len(s) {
		n = n*2 + int(s[i]-'0')
	}
	return n
}

// encoded tells bytes as text by way of a text of 0 and 1.
func encoded(b []byte) string {
	var bits strings.Builder
	for _, x := range b {
		bits.WriteString(digits(int(x), 8))
	}
	var s []byte
	for l := bits.String(); l != ""; {
		six := (l + "00000")[:6]
		s = append(s, letter(value(six)))
		l = l[min(6, len(l)):]
	}
	return string(s)
}

// decoded tells the bytes of a text by way of a text of 0 and 1, or the fault: the faults in the order in which the chapter names them, each sought in the whole text.
func decoded(s string) ([]byte, api.Fault) {
	bits := ""
	for at := range len(s) {
		n := number(s[at])
		if n < 0 {
			return nil, api.Fault{Err: api.ErrBytes, At: at}
		}
		bits += digits(n, 6)
	}
	behind := len(bits) % 8
	if behind == 6 {
		return nil, api.Fault{Err: api.ErrBytes, At: len(s)}
	}
	if strings.Contains(bits[len(bits)-behind:], "1") {
		return nil, api.Fault{Err: api.ErrBytes, At: len(s) - 1}
	}
	var b []byte
	for at := 0; at+8 <= len(bits); at += 8 {
		b = append(b, byte(value(bits[at:at+8])))
	}
	return b, api.Fault{}
}

// encodes holds that these bytes are this text.
func encodes(t *testing.T, b []byte, want string) {
	t.Helper()
	if got := Encode(b); got != want {
		t.Fatalf("Encode(%v) = %q, not %q", b, got, want)
	}
}

// decodes holds that this text is that of these bytes, or has this fault, with which nothing else is told.
func decodes(t *testing.T, s string, want []byte, fault api.Fault) {
	t.Helper()
	got, f := Decode(s)
	if !bytes.Equal(got, want) || f != fault || f.Err != api.OK && (got != nil || want != nil) {
		t.Fatalf("Decode(%q) = %v, %v, not %v, %v", s, got, f, want, fault)
	}
}

// as holds that a text is decoded as the second reading says.
func as(t *testing.T, s string) {
	t.Helper()
	b, f := decoded(s)
	decodes(t, s, b, f)
}

// The chapter's examples, one by one.
func TestExamples(t *testing.T) {
	encodes(t, nil, "")
	encodes(t, []byte{}, "")
	encodes(t, []byte{0}, "AA")
	encodes(t, []byte{255, 255, 255}, "____")
	encodes(t, []byte{251, 240}, "-_A")
	decodes(t, "AA", []byte{0}, api.Fault{})
	for s, at := range map[string]int{"AB": 1, "A": 1, "A=": 1, "AAAAA": 5} {
		decodes(t, s, nil, api.Fault{Err: api.ErrBytes, At: at})
	}
	for n, want := range map[int]int{0: 0, 2: 1, 4: 3} {
		if size, is := Size(n); size != want || !is {
			t.Error(n, size, is)
		}
	}
	for _, n := range []int{1, -3} {
		if size, is := Size(n); size != 0 || is {
			t.Error(n, size, is)
		}
	}
}

// P11.1: bytes and texts that others say, too, some with the letters - and _.
func TestKnownTexts(t *testing.T) {
	for s, b := range map[string]string{
		"": "", "Zg": "f", "Zm8": "fo", "Zm9v": "foo", "Zm9vYg": "foob", "Zm9vYmE": "fooba", "Zm9vYmFy": "foobar",
		"AAAAAAAAAAAAAAAA": strings.Repeat("\x00", 12), "FPucA9l-": "\x14\xfb\x9c\x03\xd9\x7e", "FPucA9k": "\x14\xfb\x9c\x03\xd9", "FPucAw": "\x14\xfb\x9c\x03",
		"-_-_": "\xfb\xff\xbf", "_-_-": "\xff\xef\xfe", "--__": "\xfb\xef\xff", "_w": "\xff", "-A": "\xf8", "__8": "\xff\xff", "--8": "\xfb\xef",
		"AAABAAABAAAAAAAAA3d3dwdleGFtcGxlA2NvbQAAAQAB": "\x00\x00\x01\x00\x00\x01\x00\x00\x00\x00\x00\x00\x03www\x07example\x03com\x00\x00\x01\x00\x01",
	} {
		encodes(t, []byte(b), s)
		decodes(t, s, []byte(b), api.Fault{})
	}
}

// P11.1: all bytes of one and of two.
func TestEachByteAndTwo(t *testing.T) {
	for x := range 256 {
		encodes(t, []byte{byte(x)}, string([]byte{letter(x / 4), letter(x % 4 * 16)}))
		for y := range 256 {
			w := x*256 + y
			encodes(t, []byte{byte(x), byte(y)}, string([]byte{letter(w / 1024), letter(w / 16 % 64), letter(w % 16 * 4)}))
		}
	}
}

// P11.1: each byte at each place of three, beside all kinds of others.
func TestEachByteOfThree(t *testing.T) {
	for x := range 256 {
		for _, y := range []int{0, 1, 15, 16, 63, 64, 85, 128, 170, 251, 254, 255} {
			for _, b := range [][]byte{{byte(x), byte(y), byte(y)}, {byte(y), byte(x), byte(y)}, {byte(y), byte(y), byte(x)}} {
				w := int(b[0])*65536 + int(b[1])*256 + int(b[2])
				encodes(t, b, string([]byte{letter(w / 262144), letter(w / 4096 % 64), letter(w / 64 % 64), letter(w % 64)}))
			}
		}
	}
}

// P11.1: each of the 64 letters at each place of a group of four, alone in it, and among the highest ones.
func TestEachLetterAtEachPlace(t *testing.T) {
	for n := range 64 {
		for place := range 4 {
			for _, ahead := range []string{"", "AAAA", "____", "Zm9v"} {
				for _, other := range "A_" {
					four := bytes.Repeat([]byte{byte(other)}, 4)
					four[place] = letter(n)
					s := ahead + string(four)
					b, _ := decoded(s)
					encodes(t, b, s)
					decodes(t, s, b, api.Fault{})
				}
			}
		}
	}
}

// P11.1: bytes of each length up to some more, all 0, all 255, and of any kind.
func TestEachLength(t *testing.T) {
	random := sample.New()
	for n := range 200 {
		for _, b := range [][]byte{make([]byte, n), bytes.Repeat([]byte{255}, n), []byte(random.Bytes(n)), []byte(random.Bytes(n))} {
			want := encoded(b)
			encodes(t, b, want)
			decodes(t, want, b, api.Fault{})
			if size, is := Size(len(want)); size != n || !is {
				t.Fatalf("Size(%d) = %d, %v, not %d", len(want), size, is, n)
			}
		}
		noughts, most := strings.Repeat("A", n/3*4), strings.Repeat("_", n/3*4)
		encodes(t, make([]byte, n), noughts+[]string{"", "AA", "AAA"}[n%3])
		encodes(t, bytes.Repeat([]byte{255}, n), most+[]string{"", "_w", "__8"}[n%3])
	}
}

// P11.1: of each number of letters, up to some more, there are as many bytes as texts of so many letters have, or there are no such texts.
func TestSizeOfEach(t *testing.T) {
	want := map[int]int{}
	for n := range 4000 {
		want[len(Encode(make([]byte, n)))] = n
	}
	for letters := -1000; letters < 5300; letters++ {
		n, any := want[letters]
		if size, is := Size(letters); size != n || is != any {
			t.Fatalf("Size(%d) = %d, %v, not %d, %v", letters, size, is, n, any)
		}
	}
}

// P11.1: Size at the least and the greatest int and all about, where letters by 4 have none left but one.
func TestSizeFarOut(t *testing.T) {
	for _, n := range []int{math.MinInt, math.MinInt + 1, math.MinInt + 2, math.MinInt + 3, math.MinInt + 4, -1 << 62, -1 << 32, -1 << 31, -6, -5, -4, -3, -2, -1} {
		if size, is := Size(n); size != 0 || is {
			t.Errorf("Size(%d) = %d, %v", n, size, is)
		}
	}
	for _, x := range []struct {
		letters, size int
		is            bool
	}{
		{math.MaxInt, 6917529027641081855, true}, {math.MaxInt - 1, 6917529027641081854, true}, {math.MaxInt - 2, 0, false}, {math.MaxInt - 3, 6917529027641081853, true}, {math.MaxInt - 4, 6917529027641081852, true},
		{1 << 62, 3458764513820540928, true}, {1<<62 + 1, 0, false}, {1<<62 + 2, 3458764513820540929, true}, {1<<62 + 3, 3458764513820540930, true},
		{1 << 61, 1729382256910270464, true}, {1 << 60, 864691128455135232, true}, {1<<60 + 3, 864691128455135234, true},
		{1<<31 - 1, 1610612735, true}, {1 << 31, 1610612736, true}, {1<<31 + 1, 0, false}, {1<<32 - 1, 3221225471, true}, {1 << 32, 3221225472, true}, {1<<32 + 1, 0, false}, {1<<32 + 2, 3221225473, true},
	} {
		if size, is := Size(x.letters); size != x.size || is != x.is {
			t.Errorf("Size(%d) = %d, %v, not %d, %v", x.letters, size, is, x.size, x.is)
		}
	}
}

// P11.1: many bytes, of more than a message may have.
func TestManyBytes(t *testing.T) {
	random := sample.New()
	for _, n := range []int{api.MaxMessage, api.MaxMessage + 1, 1 << 17, 1<<20 + 1} {
		b := []byte(random.Bytes(n))
		s := Encode(b)
		back, f := Decode(s)
		if !bytes.Equal(back, b) || f != (api.Fault{}) || len(s) != (n*8+5)/6 {
			t.Fatalf("%d bytes: %d letters, %d bytes, %v", n, len(s), len(back), f)
		}
		for at := 0; at+3 <= n; at += 999 {
			if four := s[at/3*4 : at/3*4+4]; four != encoded(b[at:at+3]) {
				t.Fatalf("of %d bytes those at %d are told as %q", n, at, four)
			}
		}
		if _, f := Decode(s + "\n"); f != (api.Fault{Err: api.ErrBytes, At: len(s)}) {
			t.Fatalf("%d bytes, and a line's end: %v", n, f)
		}
	}
}

// Rule 7: a call that found a fault leaves nothing behind: the next one answers as it would have.
func TestFaultsLeaveNothing(t *testing.T) {
	for range 3 {
		for _, s := range []string{"____!", "_", "__", "_____"} {
			Decode(s)
			encodes(t, []byte{251, 240}, "-_A")
			decodes(t, "AA", []byte{0}, api.Fault{})
			decodes(t, "", nil, api.Fault{})
		}
	}
}

// Rule 4: bytes that are told as text stay as they were, their spare room too, which is not looked at; and a text stays when they are written on.
func TestEncodeShares(t *testing.T) {
	random := sample.New()
	for n := range 20 {
		text := random.Bytes(n)
		want := encoded([]byte(text))
		for _, b := range sample.Rooms(text) {
			all := b[:cap(b)]
			ahead := slices.Clone(all)
			s := Encode(b)
			if s != want || !bytes.Equal(all, ahead) {
				t.Fatalf("Encode(%q) with %d of spare room = %q, not %q; it left %q of %q", text, cap(b)-n, s, want, all, ahead)
			}
			for i := range all {
				all[i] = ^all[i]
			}
			if s != want {
				t.Fatalf("Encode(%q) became %q when the bytes were written on", text, s)
			}
		}
	}
}

// Rule 4: bytes that were told are new each time, with nothing in their spare room: who writes on them, the room too, changes neither the text nor others of it.
func TestDecodeShares(t *testing.T) {
	random := sample.New()
	for n := range 40 {
		want := []byte(random.Bytes(n))
		s := string([]byte(encoded(want)))
		kept := strings.Clone(s)
		a, _ := Decode(s)
		b, _ := Decode(s)
		room := a[len(a):cap(a)]
		if !bytes.Equal(room, make([]byte, len(room))) {
			t.Fatalf("behind the bytes of %q stands %v", s, room)
		}
		for i := range a[:cap(a)] {
			a[:cap(a)][i] = 170
		}
		c, _ := Decode(s)
		if s != kept || !bytes.Equal(b, want) || !bytes.Equal(c, want) {
			t.Fatalf("written on: %q, %v, %v; they were %q, %v", s, b, c, kept, want)
		}
	}
}
