package trim

import (
	"fmt"
	"math"
	"slices"
	"testing"
	"unsafe"

	"ostiary/api"
	"ostiary/msg"
	"ostiary/sample"
)

// leads tells whether a list's entries are the first ones of another.
func leads[E comparable](a, all []E) bool {
	return len(a) <= len(all) && slices.Equal(a, all[:len(a)])
}

// parted tells the records of a list that are of TypeOPT, and the others.
func parted(l []api.Rec) ([]api.Rec, []api.Rec) {
	of := func(x api.Rec) bool { return x.Type == 41 }
	others := slices.DeleteFunc(slices.Clone(l), of)
	return slices.DeleteFunc(slices.Clone(l), func(x api.Rec) bool { return !of(x) }), others
}

// follows holds what is told of a message in so many bytes against what P10.3 says of it, and tells how many were left out.
func follows(t *testing.T, m api.Message, size int) int {
	t.Helper()
	b, n, e := Fit(m, size)
	back, f := msg.Read(b)
	if e != api.OK || f != (api.Fault{}) || len(b) > size {
		t.Fatalf("Fit(%s, %d): %d bytes, %v, %v", brief(m), size, len(b), e, f)
	}
	opts, others := parted(back.Ar)
	allOpts, allOthers := parted(m.Ar)
	if back.ID != m.ID || back.Flags|512 != m.Flags|512 || !leads(back.Q, m.Q) || !leads(back.An, m.An) || !leads(back.Ns, m.Ns) || !leads(opts, allOpts) || !leads(others, allOthers) || count(back)+n != count(m) {
		t.Fatalf("Fit(%s, %d), %d left out, is read as %s", brief(m), size, n, brief(back))
	}
	// Those of Ar that are left stand in their order.
	left := slices.Clone(m.Ar)
	for seen, i := len(allOthers), len(left)-1; i >= 0; i-- {
		if left[i].Type != 41 {
			if seen--; seen >= len(others) {
				left = slices.Delete(left, i, i+1)
			}
		}
	}
	if !leads(back.Ar, left) {
		t.Fatalf("Fit(%s, %d) has of Ar %v", brief(m), size, back.Ar)
	}
	for _, size := range []int{size, len(b), 65535} {
		fits(t, back, size, b, 0, api.OK)
	}
	return n
}

// P10.3: what is told is read as the first entries of the message's; with more bytes no more is left out; what fits is as msg.Write tells it.
func TestFollows(t *testing.T) {
	s := sample.New()
	all := append(ordinary(), steep(15900, 9, 4, 60), steep(16100, 0, 0, 3))
	for range 300 {
		m := s.Message()
		for range s.Below(4) {
			m.Ar = slices.Insert(m.Ar, s.Below(len(m.Ar)+1), option(s.Name(), s.Bytes(s.Below(30))))
		}
		if s.Below(5) == 0 {
			m.An = append(m.An, option(s.Name(), ""))
			m.Ns = append([]api.Rec{option(s.Name(), "x")}, m.Ns...)
		}
		all = append(all, m)
	}
	for _, m := range all {
		whole, e := msg.Write(m)
		if e != api.OK {
			t.Fatal(e)
		}
		before := count(m)
		sizes := []int{12, 13}
		for range 12 {
			sizes = append(sizes, 12+s.Below(len(whole)-11), max(12, len(whole)-s.Below(300)))
		}
		slices.Sort(sizes)
		for _, size := range sizes {
			n := follows(t, m, size)
			if n > before {
				t.Fatalf("%s: %d left out in %d bytes, %d in fewer", brief(m), n, size, before)
			}
			before = n
		}
		for _, size := range []int{len(whole), len(whole) + 1, 65535} {
			fits(t, m, size, whole, 0, api.OK)
		}
	}
}

// P10.3: with each byte more no more is left out, and something else just where one entry less is.
func TestMoreBytes(t *testing.T) {
	for _, m := range append(ordinary(), from("p q|a b|c O d|O e P f|")) {
		whole, _ := msg.Write(m)
		before, was := count(m), ""
		for size := 12; size <= len(whole)+3; size++ {
			b, n, _ := Fit(m, size)
			if n > before || was != "" && (n == before) != (string(b) == was) {
				t.Fatalf("%s: %d left out in %d bytes, %d in one less", brief(m), n, size, before)
			}
			before, was = n, string(b)
		}
		if before != 0 || was != string(whole) {
			t.Fatalf("%s: %d left out of %d bytes, which there are", brief(m), before, len(whole))
		}
	}
}

// fresh tells a text, and its bytes, by which it can be changed.
func fresh(s string) (string, []byte) {
	b := []byte(s)
	return unsafe.String(&b[0], len(b)), b
}

// Rule 4: what is told is new memory: who writes on it, its spare room too, changes nothing that is told later, nor what was handed in; who writes on that changes nothing that was told.
func TestNewMemory(t *testing.T) {
	for _, size := range []int{12, 40, 80, 100, 120, 65535} {
		n, name := fresh(named("name"))
		d, data := fresh("some data")
		m := api.Message{ID: 258, Q: []api.Question{question(n)}, An: []api.Rec{record(n, d)}, Ns: []api.Rec{record(n, d)}, Ar: []api.Rec{record(n, d), option(n, d)}}
		b, out, e := Fit(m, size)
		was := string(b)
		again, _, _ := Fit(m, size)
		for i := range b[:cap(b)] {
			b[:cap(b)][i] = 'z'
		}
		if string(again) != was || e != api.OK {
			t.Fatalf("%q, not %q; %v", again, was, e)
		}
		fits(t, m, size, []byte(was), out, api.OK)
		copy(name, "zzzz")
		copy(data, "zzzz")
		if string(again) != was {
			t.Fatalf("%q, not %q", again, was)
		}
	}
}

// P1: no arguments make a call panic, and each is told as another way tells it.
func TestAnyArguments(t *testing.T) {
	s := sample.New()
	odd := append(outside(), 12, 13, 40, 41, 512, 65535)
	number := func() int { return odd[s.Below(len(odd))] }
	rarely := func(n int) int {
		if s.Below(12) == 0 {
			return number()
		}
		return n
	}
	good := 0
	for range 5000 {
		m := api.Message{ID: rarely(7), Flags: rarely(256)}
		for range s.Below(2) {
			m.Q = append(m.Q, api.Question{Name: []string{"", "\x00", "a", "\x01a\x00"}[max(1, s.Below(40)%4)], Type: rarely(1), Class: rarely(1)})
		}
		for _, l := range lists(&m) {
			for range s.Below(6) / 4 {
				*l = append(*l, api.Rec{Name: []string{"\x00", "\x01a\x00", "a"}[s.Below(21)/10], Type: []int{41, 999, rarely(40)}[s.Below(3)], Class: rarely(1), TTL: rarely(5), Data: s.Bytes(s.Below(6))})
			}
		}
		size := []int{number(), 12 + s.Below(70)}[s.Below(2)]
		switch e := msg.Check(m); {
		case e != api.OK:
			fits(t, m, size, nil, 0, e)
		case size < 12 || size > 65535:
			fits(t, m, size, nil, 0, api.ErrRange)
		default:
			l := stages(m)
			n := first(l, size)
			fits(t, m, size, l[n].b, n, api.OK)
			good++
		}
		want, is := math.MaxInt, false
		for _, x := range slices.Concat(m.An, m.Ns, m.Ar) {
			if x.Type != 41 {
				want, is = min(want, x.TTL), true
			}
		}
		if !is {
			want = 0
		}
		leasts(t, m, want, is)
	}
	if good < 500 {
		t.Error(good)
	}
}

// P1: what is answered hangs on what is handed in alone: many at the same time are told as one by one.
func TestAtOnce(t *testing.T) {
	s := sample.New()
	for i := range 8 {
		m := s.Message()
		m.Ar = append(m.Ar, option(named("a"), "xy"), record(named("a"), ""))
		l := stages(m)
		least, is := Least(m)
		t.Run(fmt.Sprint(i), func(t *testing.T) {
			t.Parallel()
			for i := range 200 {
				n := i % len(l)
				fits(t, m, len(l[n].b), l[n].b, n, api.OK)
				leasts(t, m, least, is)
			}
		})
	}
}
