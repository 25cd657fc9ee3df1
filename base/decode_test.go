package base

import (
	"slices"
	"strings"
	"testing"

	"ostiary/api"
	"ostiary/sample"
)

// others are the bytes that are no letter.
func others() []byte {
	var l []byte
	for x := range 256 {
		if number(byte(x)) < 0 {
			l = append(l, byte(x))
		}
	}
	return l
}

// at tells the fault at a place.
func at(place int) api.Fault { return api.Fault{Err: api.ErrBytes, At: place} }

// with tells a text with this byte at a place.
func with(s string, place int, x byte) string {
	return s[:place] + string([]byte{x}) + s[place+1:]
}

// P11.2: there are 192 bytes that are no letter, and those that other texts of this kind have are among them.
func TestOthers(t *testing.T) {
	l := others()
	if len(l) != 192 {
		t.Fatal(len(l))
	}
	for _, x := range []byte("+/= \n\r\t\x00\x7f\x80\xff.,*~%&?@[`{^:") {
		if !slices.Contains(l, x) {
			t.Errorf("%q is a letter", x)
		}
		decodes(t, string([]byte{x}), nil, at(0))
	}
}

// P11.2: each byte that is no letter, at each place of texts of each length, first, last and between: it is told where it stands.
func TestNoLetter(t *testing.T) {
	random := sample.New()
	for _, x := range others() {
		for n := 1; n < 14; n++ {
			for _, s := range []string{strings.Repeat("A", n), strings.Repeat("_", n), letters(random, n)} {
				for place := range n {
					decodes(t, with(s, place, x), nil, at(place))
				}
			}
		}
	}
}

// P11.2: of many bytes that are no letter the first is told.
func TestFirstNoLetter(t *testing.T) {
	random := sample.New()
	l := others()
	for range 20000 {
		n := 1 + random.Below(20)
		s := letters(random, n)
		first := n
		for range 1 + random.Below(4) {
			place := random.Below(n)
			s = with(s, place, l[random.Below(len(l))])
			first = min(first, place)
		}
		decodes(t, s, nil, at(first))
	}
	for _, s := range []string{"==", "AA==", "AAA=", "AAAA====", "++//", "\n\n", "\x00\x00\x00\x00"} {
		decodes(t, s, nil, at(strings.IndexFunc(s, func(r rune) bool { return r != 'A' })))
	}
}

// P11.2: letters that other texts write with more than a byte are no letters, whatever their numbers' last bits are; nor are those that a text would lose, or pad with.
func TestNoLettersOfMoreBytes(t *testing.T) {
	for s, place := range map[string]int{
		"AA\u0141A": 2, "\u0141": 0, "\u00e9AAA": 0, "AAA\u017f": 3, "\uff21AAA": 0, "AA\u2212A": 2, "AA\u2011": 2, "AAAA\u200b": 4, "\ufeffAAAA": 0, "AA\U0001d400": 2, "AA\xc1\x81": 2,
		"AAAA\n": 4, "AA\nAA": 2, "\r\nAAAA": 0, "AAAA ": 4, " AAAA": 0, "AAAA\x00": 4, "Zg==": 2, "Zm8=": 3, "Zm9v=": 4,
	} {
		decodes(t, s, nil, at(place))
	}
}

// P11.2: a text of a length that none has is told at its end, whatever its letters are, those whose last bits are 0 and others.
func TestWrongLength(t *testing.T) {
	random := sample.New()
	for n := 1; n < 70; n += 4 {
		decodes(t, strings.Repeat("A", n), nil, at(n))
		decodes(t, strings.Repeat("_", n), nil, at(n))
		for last := range 64 {
			decodes(t, letters(random, n-1)+string([]byte{letter(last)}), nil, at(n))
		}
	}
}

// P11.2: a byte that is no letter is told ahead of a wrong length and of bits at the end, and a wrong length ahead of bits.
func TestOrderOfFaults(t *testing.T) {
	for _, x := range others() {
		for _, n := range []int{1, 5, 9} {
			for place := range n {
				decodes(t, with(strings.Repeat("_", n), place, x), nil, at(place))
			}
		}
		for _, n := range []int{2, 3, 6, 7} {
			for place := range n {
				decodes(t, with(strings.Repeat("_", n), place, x), nil, at(place))
			}
		}
	}
	for s, place := range map[string]int{"_": 1, "_____": 5, "AAAAB": 5, "B": 1, "A!___": 1, "!": 0, "____!": 4, "!_": 0, "_!": 1, "__!": 2, "!__": 0} {
		decodes(t, s, nil, at(place))
	}
}

// P11.2: each last letter of texts of two and of three letters more than by 4: told at its place, if its lowest four or two bits are not all 0.
func TestBitsBehind(t *testing.T) {
	random := sample.New()
	for fours := range 6 {
		for last := range 64 {
			for _, ahead := range []string{strings.Repeat("A", fours*4), strings.Repeat("_", fours*4), letters(random, fours*4)} {
				for _, one := range []int{0, 1, 32, 63, random.Below(64)} {
					s := ahead + string([]byte{letter(one), letter(last)})
					if last%16 != 0 {
						decodes(t, s, nil, at(len(s)-1))
					}
					as(t, s)
					s = ahead + string([]byte{letter(63 - one), letter(one), letter(last)})
					if last%4 != 0 {
						decodes(t, s, nil, at(len(s)-1))
					}
					as(t, s)
				}
			}
		}
	}
}

// P11.2: all texts of up to five of some letters and others, against the second reading.
func TestEachShortText(t *testing.T) {
	for _, s := range sample.Words("ABQg_-=\xff", 5) {
		as(t, s)
	}
}

// P11.2: texts of any bytes, and of letters mostly.
func TestAnyText(t *testing.T) {
	random := sample.New()
	for range 20000 {
		as(t, random.Bytes(random.Below(8)))
		s := letters(random, random.Below(30))
		as(t, s)
		if s != "" {
			as(t, with(s, random.Below(len(s)), byte(random.Below(256))))
		}
	}
}

// letters tells so many letters of any kind.
func letters(random *sample.Source, n int) string {
	b := make([]byte, n)
	for i := range b {
		b[i] = letter(random.Below(64))
	}
	return string(b)
}
