package trim

import (
	"slices"
	"testing"

	"ostiary/api"
	"ostiary/sample"
)

// steep tells messages that may have more bytes with an entry less: behind a filler of so many bytes, and so many short records in An and Ar, one tells a name, and others stand behind it; the first of the OPTs has so many bytes that the rest, to which that name is told, are behind the place 16,383.
func steep(at, ahead, others, opts int) api.Message {
	m := api.Message{ID: 5, Q: []api.Question{question(named("q"))}, An: []api.Rec{record("\x00", filler(at))}}
	m.An = append(m.An, slices.Repeat([]api.Rec{record("\x00", "")}, ahead/2)...)
	m.Ar = append(m.Ar, slices.Repeat([]api.Rec{record("\x00", "")}, ahead-ahead/2)...)
	m.Ar = append(m.Ar, record(sized(200), "abcd"))
	for i := range others {
		m.Ar = append(m.Ar, record("\x00", filler(i)))
	}
	m.Ar = append(m.Ar, option("\x00", filler(1400)))
	for range opts {
		m.Ar = append(m.Ar, option(sized(200), "x"))
	}
	return m
}

// turns tells how often a message becomes longer, or too long to be written, when an entry more is left out.
func turns(l []stage) int {
	n := 0
	for i := 1; i < len(l); i++ {
		if l[i-1].e == api.OK && (l[i].e != api.OK || len(l[i].b) > len(l[i-1].b)) {
			n++
		}
	}
	return n
}

// halved tells how many would be left out, were they looked for by halves, as if with each entry less there were fewer bytes.
func halved(l []stage, size int) int {
	from, to := 0, len(l)-1
	for from < to {
		if mid := (from + to) / 2; l[mid].e == api.OK && len(l[mid].b) <= size {
			to = mid
		} else {
			from = mid + 1
		}
	}
	return from
}

// tries holds Fit against the stages in sizes at which something else is told, the first ones and some of the others, and tells in how many of them one that looks by halves would leave out too many.
func tries(t *testing.T, m api.Message, some int) int {
	t.Helper()
	l := stages(m)
	missed := 0
	for i := 0; i < len(l); i += 1 + i/some {
		for size := max(12, len(l[i].b)-1); size <= min(65535, len(l[i].b)+1); size++ {
			n := first(l, size)
			fits(t, m, size, l[n].b, n, api.OK)
			missed += min(1, halved(l, size)-n)
		}
	}
	return missed
}

// P10.1: the fewest are left out, also where a message has more bytes with an entry less; each size in which that matters, counted by hand.
func TestFewest(t *testing.T) {
	m := steep(16000, 0, 0, 100)
	l := stages(m)
	// 12, 7, 16,011, 214, 1,411, and 100 times 13; without the record 100 times 211; without the filler 211, and 99 times 13.
	for i, want := range []int{18955, 38541, 2928} {
		if len(l[i].b) != want {
			t.Fatalf("%d left out: %d bytes, not %d", i, len(l[i].b), want)
		}
	}
	for size, n := range map[int]int{65535: 0, 38542: 0, 38541: 0, 38540: 0, 18956: 0, 18955: 0, 18954: 2, 2929: 2, 2928: 2, 2927: 3} {
		fits(t, m, size, l[n].b, n, api.OK)
	}
	// Without the record more bytes than any message may have.
	m = steep(16000, 0, 0, 300)
	l = stages(m)
	if l[1].e != api.ErrLong {
		t.Fatal(l[1].e)
	}
	for size, n := range map[int]int{65535: 0, 21555: 0, 21554: 2, 5528: 2, 5527: 3} {
		fits(t, m, size, l[n].b, n, api.OK)
	}
}

// P10.1: likewise with others behind the record, of which fewer or more are left out till it fits.
func TestFewestBehind(t *testing.T) {
	missed := 0
	for _, c := range [][4]int{{15500, 40, 5, 60}, {15600, 30, 12, 250}, {15700, 20, 3, 30}, {16100, 0, 1, 1}, {16130, 0, 2, 2}, {15950, 2, 9, 40}, {14600, 9, 7, 40}} {
		missed += tries(t, steep(c[0], c[1], c[2], c[3]), 4)
	}
	if missed < 40 {
		t.Errorf("%d would be missed by halves", missed)
	}
}

// P10.1: likewise of names that are told by questions, by records of each list, by their data and by OPTs, near the last place that tells one.
func TestFewestRandom(t *testing.T) {
	s := sample.New()
	names := []string{"\x00", sized(250), sized(130), "\x01a" + sized(250), "\x01b" + sized(130), named("b"), named("a", "b")}
	name := func() string { return names[s.Below(len(names))] }
	some := func() api.Rec {
		if s.Below(3) == 0 {
			return api.Rec{Name: name(), Type: 5, Class: 1, Data: name()}
		}
		return record(name(), s.Bytes(s.Below(90)))
	}
	steeps, missed := 0, 0
	for range 25 {
		m := api.Message{ID: s.Below(65536), Flags: s.Below(65536), An: []api.Rec{record("\x00", filler(15000+s.Below(900)))}}
		m.An = append(m.An, slices.Repeat([]api.Rec{record("\x00", "")}, s.Below(30))...)
		m.Ar = slices.Repeat([]api.Rec{record("\x00", "")}, s.Below(30))
		for range s.Below(3) {
			m.Q = append(m.Q, question(name()))
		}
		for _, l := range lists(&m) {
			for range s.Below(4) {
				*l = append(*l, some())
			}
		}
		m.Ar = slices.Insert(m.Ar, s.Below(len(m.Ar)+1), option(name(), filler(s.Below(1800))))
		for range 20 + s.Below(50) {
			m.Ar = append(m.Ar, option(name(), ""))
		}
		steeps += min(1, turns(stages(m)))
		missed += tries(t, m, 2)
	}
	if steeps < 8 || missed < 60 {
		t.Errorf("%d have more bytes with less, %d would be missed by halves", steeps, missed)
	}
}

// P10.1: what is left out first goes also where that alone is no help, since what is behind it is too long.
func TestFewestOfLast(t *testing.T) {
	m := answering()
	m.Q = []api.Question{question(sized(255))}
	l := stages(m)
	for size := 12; size < 271; size++ {
		fits(t, m, size, l[3].b, 3, api.OK)
	}
	fits(t, m, 271, l[2].b, 2, api.OK)
}
