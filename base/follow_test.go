package base

import (
	"bytes"
	"encoding/base64"
	"slices"
	"testing"

	"ostiary/api"
	"ostiary/sample"
)

// P11.3: all texts of up to three letters: what is decoded is encoded as it was, and no two texts are that of the same bytes.
func TestTextsBack(t *testing.T) {
	seen := map[string]string{}
	all := make([]byte, 0, 64)
	for n := range 64 {
		all = append(all, letter(n))
	}
	for _, s := range sample.Words(string(all), 3) {
		b, f := Decode(s)
		if f != (api.Fault{}) {
			continue
		}
		if other, is := seen[string(b)]; is {
			t.Fatalf("%v is told by %q and by %q", b, other, s)
		}
		seen[string(b)] = s
		encodes(t, b, s)
	}
	if len(seen) != 1+256+65536 {
		t.Errorf("%d texts, of each of the bytes up to two one", len(seen))
	}
}

// P11.3: texts of four letters and of more: each is that of bytes, and of no others.
func TestLongTextsBack(t *testing.T) {
	random := sample.New()
	for range 50000 {
		s := letters(random, random.Below(40))
		if b, f := Decode(s); f == (api.Fault{}) {
			encodes(t, b, s)
		} else if len(s)%4 == 0 {
			t.Fatalf("Decode(%q) has the fault %v", s, f)
		}
	}
}

// P11.3: bytes of any kind and length: what is encoded is decoded as it was, and it is the text that others tell as well.
func TestBytesBack(t *testing.T) {
	random := sample.New()
	for range 50000 {
		b := []byte(random.Bytes(random.Below(40)))
		s := Encode(b)
		decodes(t, s, b, api.Fault{})
		if other := base64.RawURLEncoding.EncodeToString(b); s != other {
			t.Fatalf("Encode(%v) = %q, not %q", b, s, other)
		}
	}
}

// P11.3: the text of bytes behind others, of which there are as many as by 3, is both texts, one behind the other; so are the bytes of such texts.
func TestTextsBehindOthers(t *testing.T) {
	random := sample.New()
	for range 20000 {
		a, b := []byte(random.Bytes(3*random.Below(12))), []byte(random.Bytes(random.Below(30)))
		s := Encode(a) + Encode(b)
		encodes(t, slices.Concat(a, b), s)
		decodes(t, s, bytes.Join([][]byte{a, b}, nil), api.Fault{})
	}
}
