package octet

import (
	"bytes"
	"math"
	"slices"
	"testing"

	"ostiary/api"
)

const (
	most16 = 1<<16 - 1
	most32 = 1<<32 - 1
)

// kind is one of the two sizes: its calls, and what it takes.
type kind struct {
	name string
	size int
	most int
	put  func(int) ([]byte, api.Errno)
	get  func([]byte, int) (int, int, api.Fault)
}

var kinds = []kind{
	{"16", 2, most16, Put16, Get16},
	{"32", 4, most32, Put32, Get32},
}

// edges are the numbers about which the chapter speaks, and those about which bytes, words and ints turn.
var edges = []int{
	math.MinInt, math.MinInt + 1, math.MinInt + 258, -1 << 48, -1 << 33, -1<<32 - 1, -1 << 32, -1<<32 + 1, -1 << 31,
	-1<<16 - 1, -1 << 16, -1<<16 + 258, -1 << 15, -257, -256, -255, -2, -1,
	0, 1, 2, 7, 127, 128, 254, 255, 256, 257, 258, 511, 1<<15 - 1, 1 << 15, 1<<15 + 1,
	most16 - 1, most16, most16 + 1, most16 + 2, 1<<16 + 258, 1 << 17, 1<<24 - 1, 1 << 24, 1<<24 + 1, 0x01020304, 0x04030201,
	1<<31 - 1, 1 << 31, 1<<31 + 1, 0xfffefdfc, most32 - 1, most32, most32 + 1, most32 + 2, 1<<32 + 258, 1 << 33,
	1 << 40, 1 << 48, 1<<53 + 1, 1 << 62, math.MaxInt - 1, math.MaxInt,
}

// source tells numbers, the same ones in each run.
type source uint64

func (s *source) word() uint64 {
	*s ^= *s << 13
	*s ^= *s >> 7
	*s ^= *s << 17
	return uint64(*s)
}

// bytesOf tells the bytes of a number by dividing, the highest first.
func bytesOf(n, size int) []byte {
	l := make([]byte, size)
	for i := size - 1; i >= 0; i-- {
		l[i] = byte(n % 256)
		n /= 256
	}
	return l
}

// numberOf tells the number of bytes by multiplying.
func numberOf(l []byte) int {
	n := 0
	for _, x := range l {
		n = n*256 + int(x)
	}
	return n
}

// roomy tells bytes, none of them 0, behind which there is spare room that is full as well.
func roomy(n, room int) []byte {
	l := make([]byte, n+room)
	for i := range l {
		l[i] = byte(i*7%255 + 1)
	}
	return l[:n]
}

// whole tells bytes with their spare room.
func whole(b []byte) []byte { return b[:cap(b)] }

// missing tells the fault, if there is one, of n bytes from a place on of so many.
func missing(have, at, n int) (api.Fault, bool) {
	if at < 0 || at > have {
		return api.Fault{Err: api.ErrRange}, true
	}
	if n > have-at {
		return api.Fault{Err: api.ErrBytes, At: have}, true
	}
	return api.Fault{}, false
}

// places are those in bytes, at their end, below 0 and behind the end, also far.
func places(have int) []int {
	l := []int{math.MinInt, math.MinInt + 1, -1 << 32, -4, -2, -1}
	for at := range have + 6 {
		l = append(l, at)
	}
	return append(l, 1<<16, 1<<32, math.MaxInt-3, math.MaxInt-1, math.MaxInt)
}

// The chapter's examples, one by one.
func TestExamples(t *testing.T) {
	for _, x := range []struct {
		k    kind
		n    int
		want []byte
		e    api.Errno
	}{
		{kinds[0], 258, []byte{1, 2}, api.OK}, {kinds[0], 65536, nil, api.ErrRange}, {kinds[1], 65536, []byte{0, 1, 0, 0}, api.OK},
	} {
		if got, e := x.k.put(x.n); !bytes.Equal(got, x.want) || e != x.e {
			t.Errorf("Put%s(%d) = %v, %v", x.k.name, x.n, got, e)
		}
	}
	for _, x := range []struct {
		k          kind
		b          []byte
		at, n, end int
		f          api.Fault
	}{
		{kinds[0], []byte{9, 1, 2}, 1, 258, 3, api.Fault{}},
		{kinds[0], []byte{9, 1, 2}, 2, 0, 0, api.Fault{Err: api.ErrBytes, At: 3}},
		{kinds[1], []byte{9}, 2, 0, 0, api.Fault{Err: api.ErrRange}},
	} {
		if n, end, f := x.k.get(x.b, x.at); n != x.n || end != x.end || f != x.f {
			t.Errorf("Get%s(%v, %d) = %d, %d, %v", x.k.name, x.b, x.at, n, end, f)
		}
	}
	for _, x := range []struct {
		b     []byte
		at, n int
		want  []byte
		end   int
		f     api.Fault
	}{
		{[]byte{1, 2, 3}, 1, 2, []byte{2, 3}, 3, api.Fault{}},
		{[]byte{1, 2, 3}, 3, 0, nil, 3, api.Fault{}},
		{[]byte{1}, 0, -1, nil, 0, api.Fault{Err: api.ErrArg}},
	} {
		if got, end, f := Bytes(x.b, x.at, x.n); !bytes.Equal(got, x.want) || end != x.end || f != x.f {
			t.Errorf("Bytes(%v, %d, %d) = %v, %d, %v", x.b, x.at, x.n, got, end, f)
		}
	}
}

// P3.1: at all the edges a number has its bytes, or is refused, and has none then.
func TestPutAtEdges(t *testing.T) {
	for _, k := range kinds {
		for _, n := range edges {
			got, e := k.put(n)
			if n < 0 || n > k.most {
				if len(got) != 0 || e != api.ErrRange {
					t.Errorf("Put%s(%d) = %v, %v", k.name, n, got, e)
				}
				continue
			}
			if want := bytesOf(n, k.size); !bytes.Equal(got, want) || e != api.OK {
				t.Errorf("Put%s(%d) = %v, %v, not %v", k.name, n, got, e, want)
			}
		}
	}
}

// P3.1: each bit that is one too high, or tells a number below 0, is refused, alone and with bytes below it.
func TestPutOfEachBit(t *testing.T) {
	for _, k := range kinds {
		for bit := range 64 {
			for _, low := range []int{0, 1, 258, k.most} {
				n := int(uint64(1)<<bit | uint64(low))
				got, e := k.put(n)
				if fits := bit < 8*k.size; fits && (e != api.OK || !bytes.Equal(got, bytesOf(n, k.size))) || !fits && (e != api.ErrRange || len(got) != 0) {
					t.Errorf("Put%s(%d) = %v, %v", k.name, n, got, e)
				}
			}
		}
	}
}

// P3.2: at each place of bytes of each length, with and without spare room behind them, a number is there, or is told to be missing.
func TestGetAtEachPlace(t *testing.T) {
	for _, k := range kinds {
		for have := range 10 {
			for _, room := range []int{0, 1, 8} {
				b := roomy(have, room)
				for _, at := range places(have) {
					n, end, f := k.get(b, at)
					if want, bad := missing(have, at, k.size); bad {
						if n != 0 || end != 0 || f != want {
							t.Fatalf("Get%s of %d bytes at %d = %d, %d, %v, not %v", k.name, have, at, n, end, f, want)
						}
						continue
					}
					if want := numberOf(b[at : at+k.size]); n != want || end != at+k.size || f != (api.Fault{}) {
						t.Fatalf("Get%s(%v, %d) = %d, %d, %v, not %d", k.name, b, at, n, end, f, want)
					}
				}
			}
		}
	}
}

// P3.2: the least and the greatest number, and those whose first bit is set: none is told below 0.
func TestGetOfEdges(t *testing.T) {
	for _, x := range []struct {
		k    kind
		b    []byte
		want int
	}{
		{kinds[0], []byte{0, 0}, 0}, {kinds[0], []byte{0, 255}, 255}, {kinds[0], []byte{1, 0}, 256}, {kinds[0], []byte{127, 255}, 1<<15 - 1},
		{kinds[0], []byte{128, 0}, 1 << 15}, {kinds[0], []byte{255, 255}, most16},
		{kinds[1], []byte{0, 0, 0, 0}, 0}, {kinds[1], []byte{1, 2, 3, 4}, 0x01020304}, {kinds[1], []byte{0, 1, 0, 0}, 65536},
		{kinds[1], []byte{127, 255, 255, 255}, 1<<31 - 1}, {kinds[1], []byte{128, 0, 0, 0}, 1 << 31}, {kinds[1], []byte{255, 255, 255, 255}, most32},
	} {
		if n, end, f := x.k.get(x.b, 0); n != x.want || end != x.k.size || f != (api.Fault{}) {
			t.Errorf("Get%s(%v, 0) = %d, %d, %v", x.k.name, x.b, n, end, f)
		}
	}
}

// P3.2: no bytes, nil or empty: at 0 is their end, anything else is outside.
func TestNoBytes(t *testing.T) {
	for _, b := range [][]byte{nil, {}, roomy(0, 8)} {
		for _, k := range kinds {
			for at, want := range map[int]api.Fault{-1: {Err: api.ErrRange}, 0: {Err: api.ErrBytes}, 1: {Err: api.ErrRange}} {
				if n, end, f := k.get(b, at); n != 0 || end != 0 || f != want {
					t.Errorf("Get%s(%v, %d) = %d, %d, %v", k.name, b, at, n, end, f)
				}
			}
		}
		for _, x := range []struct {
			at, n int
			f     api.Fault
		}{
			{0, 0, api.Fault{}}, {0, 1, api.Fault{Err: api.ErrBytes}}, {1, 0, api.Fault{Err: api.ErrRange}}, {-1, 0, api.Fault{Err: api.ErrRange}}, {0, -1, api.Fault{Err: api.ErrArg}},
		} {
			if l, end, f := Bytes(b, x.at, x.n); len(l) != 0 || end != 0 || f != x.f {
				t.Errorf("Bytes(%v, %d, %d) = %v, %d, %v", b, x.at, x.n, l, end, f)
			}
		}
	}
}

// counts are how many bytes are asked for: few, below 0, too many, and so many that no sum with them fits an int, nor they the memory.
func counts(have int) []int {
	l := []int{math.MinInt, math.MinInt + 1, -1 << 32, -3, -2, -1}
	for n := range have + 4 {
		l = append(l, n)
	}
	return append(l, 64, 1<<40, 1<<47, 1<<62, math.MaxInt-9, math.MaxInt-1, math.MaxInt)
}

// P3.2: at each place of bytes of each length each count of them is there, or is told to be wrong, outside, or missing, in that order.
func TestBytesAtEachPlace(t *testing.T) {
	for have := range 9 {
		for _, room := range []int{0, 1, 8} {
			b := roomy(have, room)
			for _, at := range places(have) {
				for _, n := range counts(have) {
					l, end, f := Bytes(b, at, n)
					want, bad := missing(have, at, n)
					if n < 0 {
						want, bad = api.Fault{Err: api.ErrArg}, true
					}
					if bad {
						if len(l) != 0 || end != 0 || f != want {
							t.Fatalf("Bytes of %d bytes, %d from %d on = %v, %d, %v, not %v", have, n, at, l, end, f, want)
						}
						continue
					}
					if !bytes.Equal(l, b[at:at+n]) || end != at+n || f != (api.Fault{}) {
						t.Fatalf("Bytes(%v, %d, %d) = %v, %d, %v", b, at, n, l, end, f)
					}
				}
			}
		}
	}
}

// P3.2: many bytes are told as they are, noughts among them.
func TestManyBytes(t *testing.T) {
	b := make([]byte, 70000)
	s := source(88172645463325252)
	for i := range b {
		b[i] = byte(s.word() >> 20)
	}
	for range 200 {
		at := int(s.word() % uint64(len(b)))
		n := int(s.word() % uint64(len(b)-at+1))
		if l, end, f := Bytes(b, at, n); !bytes.Equal(l, b[at:at+n]) || end != at+n || f != (api.Fault{}) {
			t.Fatalf("Bytes of %d from %d on: %d bytes, %d, %v", n, at, len(l), end, f)
		}
	}
	if l, end, f := Bytes(b, 1, len(b)); len(l) != 0 || end != 0 || f != (api.Fault{Err: api.ErrBytes, At: len(b)}) {
		t.Errorf("one too many: %d bytes, %d, %v", len(l), end, f)
	}
}

// back puts a number, lays it between other bytes, and gets it, all at once and as bytes.
func back(t *testing.T, k kind, n, ahead int) {
	t.Helper()
	put, e := k.put(n)
	laid := slices.Concat(bytes.Repeat([]byte{255}, ahead), put, []byte{170, 85})
	got, end, f := k.get(laid, ahead)
	if e != api.OK || len(put) != k.size || got != n || end != ahead+k.size || f != (api.Fault{}) {
		t.Fatalf("Put%s(%d) = %v, %v; Get%s behind %d = %d, %d, %v", k.name, n, put, e, k.name, ahead, got, end, f)
	}
	if l, _, _ := Bytes(laid, ahead, k.size); !bytes.Equal(l, put) {
		t.Fatalf("Put%s(%d) = %v; Bytes behind %d = %v", k.name, n, put, ahead, l)
	}
}

// P3.3: what is put is got: all numbers of two bytes.
func TestTwoBytesBack(t *testing.T) {
	for n := range most16 + 1 {
		back(t, kinds[0], n, n%3)
	}
}

// P3.3: what is put is got: of four bytes the edges, and numbers all over.
func TestFourBytesBack(t *testing.T) {
	for _, n := range edges {
		if n >= 0 && n <= most32 {
			back(t, kinds[1], n, 1)
		}
	}
	s := source(88172645463325252)
	for i := range 100000 {
		w := s.word()
		back(t, kinds[1], int(w>>32)>>(w%32), i%3)
	}
}

// P3.3: of a number there are no other bytes: what is got is put as it stood, and no two bytes are the same number.
func TestNoOtherBytes(t *testing.T) {
	seen := make([]bool, most16+1)
	for x := range 256 {
		for y := range 256 {
			b := []byte{byte(x), byte(y)}
			n, _, _ := Get16(b, 0)
			if n < 0 || n > most16 || seen[n] {
				t.Fatalf("Get16(%v, 0) = %d, which is none, or that of others", b, n)
			}
			seen[n] = true
			if l, e := Put16(n); !bytes.Equal(l, b) || e != api.OK {
				t.Fatalf("Put16(%d) = %v, %v, not %v", n, l, e, b)
			}
		}
	}
	s := source(88172645463325252)
	for range 100000 {
		w := s.word() >> 16
		b := []byte{byte(w), byte(w >> 8), byte(w >> 16), byte(w >> 24)}
		n, _, _ := Get32(b, 0)
		if l, e := Put32(n); !bytes.Equal(l, b) || e != api.OK {
			t.Fatalf("Put32(%d) = %v, %v, not %v", n, l, e, b)
		}
	}
}

// P3.3: a number of four bytes is that of the first two, times 65,536, and that of the last two.
func TestFourBytesAreTwiceTwo(t *testing.T) {
	s := source(88172645463325252)
	for range 100000 {
		w := s.word() >> 16
		b := []byte{9, byte(w), byte(w >> 8), byte(w >> 16), byte(w >> 24)}
		high, mid, _ := Get16(b, 1)
		low, last, _ := Get16(b, mid)
		if n, end, f := Get32(b, 1); n != high*65536+low || end != last || f != (api.Fault{}) {
			t.Fatalf("Get32(%v, 1) = %d, %d, %v: not %d and %d", b, n, end, f, high, low)
		}
	}
	for _, n := range edges {
		if n < 0 || n > most32 {
			continue
		}
		high, _ := Put16(n / 65536)
		low, _ := Put16(n % 65536)
		if l, _ := Put32(n); !bytes.Equal(l, slices.Concat(high, low)) {
			t.Fatalf("Put32(%d) = %v: not %v and %v", n, l, high, low)
		}
	}
}

// Rule 4: what was put is new each time: who writes on one, its spare room too, changes no other one.
func TestPutIsNew(t *testing.T) {
	for _, k := range kinds {
		a, _ := k.put(258)
		clear(whole(a))
		b, _ := k.put(258)
		c, _ := k.put(772)
		if !bytes.Equal(b, bytesOf(258, k.size)) || !bytes.Equal(c, bytesOf(772, k.size)) || !bytes.Equal(a, make([]byte, k.size)) {
			t.Errorf("Put%s: %v, %v, %v", k.name, a, b, c)
		}
	}
}

// Rule 4: bytes that were told are new: they and those they came from can be written on without each other, the spare room too.
func TestBytesAreNew(t *testing.T) {
	for have := range 9 {
		for at := range have + 1 {
			for n := range have - at + 1 {
				b := roomy(have, 8)
				ahead := slices.Clone(whole(b))
				told, _, _ := Bytes(b, at, n)
				again, _, _ := Bytes(b, at, n)
				clear(whole(told))
				if !bytes.Equal(whole(b), ahead) || !bytes.Equal(again, ahead[at:at+n]) {
					t.Fatalf("Bytes of %d, %d from %d on: writing on it changed %v to %v, or %v", have, n, at, ahead, whole(b), again)
				}
				clear(whole(b))
				if !bytes.Equal(again, ahead[at:at+n]) {
					t.Fatalf("Bytes of %d, %d from %d on: it changed to %v", have, n, at, again)
				}
			}
		}
	}
}

// Rule 4: an answer's spare room holds nothing that was handed in.
func TestBytesHandNoRoomOut(t *testing.T) {
	for have := range 9 {
		for n := range have + 1 {
			told, _, _ := Bytes(roomy(have, 8), 0, n)
			if room := whole(told)[n:]; !bytes.Equal(room, make([]byte, len(room))) {
				t.Fatalf("Bytes of %d, the first %d: %v behind them", have, n, room)
			}
		}
	}
}

// Rule 4: whatever is asked, with a fault or without, what was handed in stays as it was, its spare room too.
func TestHandedInStays(t *testing.T) {
	for have := range 7 {
		b := roomy(have, 8)
		ahead := slices.Clone(whole(b))
		for _, at := range places(have) {
			for _, k := range kinds {
				k.get(b, at)
			}
			for _, n := range counts(have) {
				Bytes(b, at, n)
			}
			if !bytes.Equal(whole(b), ahead) {
				t.Fatalf("at %d of %d: %v became %v", at, have, ahead, whole(b))
			}
		}
	}
}

// Rule 7: a call that found something missing leaves nothing behind: the next one answers as it would have.
func TestFaultsLeaveNothing(t *testing.T) {
	b := []byte{1, 2, 3, 4}
	for range 3 {
		Get32(b, 1)
		Bytes(b, 2, math.MaxInt)
		Put16(-1)
		n, end, f := Get32(b, 0)
		l, last, g := Bytes(b, 1, 3)
		if n != 0x01020304 || end != 4 || f != (api.Fault{}) || !bytes.Equal(l, b[1:]) || last != 4 || g != (api.Fault{}) {
			t.Fatal(n, end, f, l, last, g)
		}
	}
}
