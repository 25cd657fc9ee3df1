package trim

import (
	"fmt"
	"math"
	"slices"
	"testing"

	"ostiary/api"
	"ostiary/edns"
	"ostiary/msg"
	"ostiary/sample"
)

var (
	named, sized, filler = sample.Named, sample.Sized, sample.Filler
	lists, same          = sample.Lists, sample.Same
	roomy, clone         = sample.Roomy, sample.Clone
)

// question tells a question whose name alone matters.
func question(n string) api.Question { return api.Question{Name: n, Type: 1, Class: 1} }

// record tells a record whose name and data alone matter, and of which no name but its own is told.
func record(n, data string) api.Rec {
	return api.Rec{Name: n, Type: 999, Class: 1, TTL: 5, Data: data}
}

// option tells a record of TypeOPT, whosever it is.
func option(n, data string) api.Rec { return api.Rec{Name: n, Type: 41, Class: 1232, Data: data} }

// asking is a question of 19 bytes.
func asking() api.Message {
	return api.Message{ID: 7, Flags: 256, Q: []api.Question{question(named("a"))}}
}

// answering is the message of the chapter's examples, of 46 bytes.
func answering() api.Message {
	m := asking()
	m.An = []api.Rec{{Name: named("a"), Type: 1, Class: 1, TTL: 5, Data: "abcd"}}
	m.Ar = []api.Rec{option("\x00", "")}
	return m
}

// full is an answer with records in each of its lists, whose names are told short, and an OPT between others.
func full() api.Message {
	www, w, zone, ns := named("www", "Example"), named("w", "Example"), named("Example"), named("ns", "Example")
	return api.Message{
		ID: 258, Flags: 33920,
		Q:  []api.Question{question(www)},
		An: []api.Rec{{Name: www, Type: 5, Class: 1, TTL: 9, Data: w}, {Name: w, Type: 1, Class: 1, TTL: 8, Data: "abcd"}},
		Ns: []api.Rec{{Name: zone, Type: 2, Class: 1, TTL: 7, Data: ns}},
		Ar: []api.Rec{{Name: ns, Type: 1, Class: 1, TTL: 6, Data: "efgh"}, option("\x00", "\x00\x08\x00\x02xy"), {Name: zone, Type: 15, Class: 1, TTL: 5, Data: "\x00\x05" + ns}},
	}
}

// ordinary tells messages of all kinds: with entries in each list, in one, in none, with an OPT and without one.
func ordinary() []api.Message {
	put, _ := edns.Put(asking(), api.Edns{Size: 1232, Do: true, Options: []api.Option{{Code: 8, Data: "xy"}}})
	l := []api.Message{{}, {ID: 65535, Flags: 65535}, asking(), answering(), full(), edns.Strip(full()), put}
	for i := range 3 {
		var m api.Message
		of := full()
		*lists(&m)[i] = *lists(&of)[i]
		l = append(l, m)
	}
	return append(l, api.Message{Ar: []api.Rec{option("\x00", "")}}, api.Message{Q: []api.Question{question("\x00"), question(sized(255)), question("\x00")}})
}

// brief tells a message in few words, for what a test says.
func brief(m api.Message) string {
	return fmt.Sprintf("%d %d, %d questions %.40v, %d, %d, %d records %.40v %.40v %.40v", m.ID, m.Flags, len(m.Q), m.Q, len(m.An), len(m.Ns), len(m.Ar), m.An, m.Ns, m.Ar)
}

// count tells how many entries a message has.
func count(m api.Message) int { return len(m.Q) + len(m.An) + len(m.Ns) + len(m.Ar) }

// dropped tells a message with one entry less.
func dropped(m api.Message) api.Message {
	for i := len(m.Ar) - 1; i >= 0; i-- {
		if m.Ar[i].Type != 41 {
			m.Ar = slices.Delete(slices.Clone(m.Ar), i, i+1)
			return m
		}
	}
	if n := len(m.Ns); n > 0 {
		m.Ns, m.Flags = m.Ns[:n-1], m.Flags|512
	} else if n := len(m.An); n > 0 {
		m.An, m.Flags = m.An[:n-1], m.Flags|512
	} else if n := len(m.Ar); n > 0 {
		m.Ar = m.Ar[:n-1]
	} else if n := len(m.Q); n > 0 {
		m.Q, m.Flags = m.Q[:n-1], m.Flags|512
	}
	return m
}

// stage is a message of which some entries were left out, one by one, and its bytes, if it has no more than a message may.
type stage struct {
	m api.Message
	b []byte
	e api.Errno
}

// stages tells a message that may be with no entry left out, with one, and so on, with all of them.
func stages(m api.Message) []stage {
	var l []stage
	for range count(m) + 1 {
		b, e := msg.Write(m)
		l = append(l, stage{m, b, e})
		m = dropped(m)
	}
	return l
}

// first tells which is the first stage of at most so many bytes.
func first(l []stage, size int) int {
	return slices.IndexFunc(l, func(s stage) bool { return s.e == api.OK && len(s.b) <= size })
}

// fits holds what Fit tells against what it is to tell; what was handed in has to stay as it was, and what is behind it does not matter.
func fits(t *testing.T, m api.Message, size int, want []byte, n int, f api.Errno) {
	t.Helper()
	m, all := roomy(m)
	was := clone(all)
	b, out, e := Fit(m, size)
	if !slices.Equal(b, want) || out != n || e != f || e != api.OK && b != nil {
		t.Fatalf("Fit(%s, %d) = %.60q (%d bytes), %d, %v, not %.60q (%d bytes), %d, %v", brief(m), size, b, len(b), out, e, want, len(want), n, f)
	}
	if !same(all, was) {
		t.Fatalf("Fit(%s, %d) changed it", brief(m), size)
	}
}

// outside tells sizes that no message has.
func outside() []int {
	return []int{math.MinInt, math.MinInt + 12, -1 << 32, -65536, -512, -12, -1, 0, 1, 11, 65536, 65537, 65548, 1<<17 + 512, 1 << 31, 1<<32 + 12, math.MaxInt}
}

// edges tells the sizes at which something else may be told: as many bytes as each stage has, one less and one more, and the least and greatest sizes.
func edges(l []stage) []int {
	sizes := []int{12, 13, 512, 1232, 16384, 65534, 65535}
	for _, s := range l {
		for n := len(s.b) - 1; n <= len(s.b)+1; n++ {
			if n >= 12 && n <= 65535 {
				sizes = append(sizes, n)
			}
		}
	}
	slices.Sort(sizes)
	return slices.Compact(sizes)
}

// P10.1: the chapter's examples, byte by byte.
func TestFitExamples(t *testing.T) {
	m := answering()
	q := "\x01a\x00\x00\x01\x00\x01"
	an := "\xc0\x0c\x00\x01\x00\x01\x00\x00\x00\x05\x00\x04abcd"
	ar := "\x00\x00\x29\x04\xd0\x00\x00\x00\x00\x00\x00"
	whole := []byte("\x00\x07\x01\x00\x00\x01\x00\x01\x00\x00\x00\x01" + q + an + ar)
	if len(whole) != 46 {
		t.Fatal(len(whole))
	}
	for size := 46; size <= 50; size++ {
		fits(t, m, size, whole, 0, api.OK)
	}
	fits(t, m, 65535, whole, 0, api.OK)
	for size := 30; size <= 45; size++ {
		fits(t, m, size, []byte("\x00\x07\x03\x00\x00\x01\x00\x00\x00\x00\x00\x01"+q+ar), 1, api.OK)
	}
	for size := 19; size <= 29; size++ {
		fits(t, m, size, []byte("\x00\x07\x03\x00\x00\x01\x00\x00\x00\x00\x00\x00"+q), 2, api.OK)
	}
	for size := 12; size <= 18; size++ {
		fits(t, m, size, []byte("\x00\x07\x03\x00\x00\x00\x00\x00\x00\x00\x00\x00"), 3, api.OK)
	}
	fits(t, m, 11, nil, 0, api.ErrRange)
}

// P10.1: messages of all kinds in each size from the least one up to some bytes more than they have.
func TestFitSizes(t *testing.T) {
	s := sample.New()
	all := ordinary()
	for range 60 {
		m := s.Message()
		all = append(all, m)
		m.Ar = slices.Insert(slices.Clone(m.Ar), s.Below(len(m.Ar)+1), option("\x00", s.Bytes(s.Below(20))))
		all = append(all, m)
	}
	for _, m := range all {
		l := stages(m)
		for size := 12; size < len(l[0].b)+5; size++ {
			n := first(l, size)
			fits(t, m, size, l[n].b, n, api.OK)
		}
		fits(t, m, 65535, l[0].b, 0, api.OK)
	}
}

// P10.1: which sizes there are; for a message without entries, too, which fits into the least one.
func TestFitRange(t *testing.T) {
	for _, m := range ordinary() {
		l := stages(m)
		for _, size := range outside() {
			fits(t, m, size, nil, 0, api.ErrRange)
		}
		for _, size := range []int{12, 13, 65534, 65535} {
			n := first(l, size)
			fits(t, m, size, l[n].b, n, api.OK)
		}
	}
	for size := -100; size < 12; size++ {
		fits(t, api.Message{ID: 258, Flags: 772}, size, nil, 0, api.ErrRange)
	}
	for size := 65536; size < 65700; size++ {
		fits(t, answering(), size, nil, 0, api.ErrRange)
	}
	fits(t, api.Message{ID: 258, Flags: 772}, 12, []byte("\x01\x02\x03\x04\x00\x00\x00\x00\x00\x00\x00\x00"), 0, api.OK)
}

// bad tells messages that may not be, and why.
func bad() []stage {
	var l []stage
	for _, x := range []struct {
		x api.Rec
		e api.Errno
	}{{api.Rec{}, api.ErrBytes}, {record("a", ""), api.ErrBytes}, {record(sized(256), ""), api.ErrLong}, {record("\x00", filler(65536)), api.ErrLong}, {api.Rec{Name: "\x00", Type: -1}, api.ErrRange}, {api.Rec{Name: "\x00", Type: 999, TTL: -1}, api.ErrRange}, {api.Rec{Name: "\x00", Type: 1, Data: "abc"}, api.ErrBytes}, {option("", ""), api.ErrBytes}, {api.Rec{Name: "\x00", Type: 41, Class: 65536}, api.ErrRange}} {
		for i := range 3 {
			for place := range 2 {
				m := full()
				*lists(&m)[i] = slices.Insert(*lists(&m)[i], place*len(*lists(&m)[i]), x.x)
				l = append(l, stage{m: m, e: x.e})
			}
			var m api.Message
			*lists(&m)[i] = []api.Rec{x.x}
			l = append(l, stage{m: m, e: x.e})
		}
	}
	for q, e := range map[api.Question]api.Errno{{}: api.ErrBytes, {Name: sized(256)}: api.ErrLong, {Name: "\x00", Type: 65536}: api.ErrRange} {
		m := full()
		m.Q = append(m.Q, q)
		l = append(l, stage{m: m, e: e}, stage{m: api.Message{Q: []api.Question{q}}, e: e})
	}
	for _, n := range []int{-1, 65536, math.MinInt, math.MaxInt} {
		for i := range 2 {
			m := full()
			*[]*int{&m.ID, &m.Flags}[i] = n
			l = append(l, stage{m: m, e: api.ErrRange})
		}
	}
	for i := range 3 {
		m := full()
		*lists(&m)[i] = slices.Repeat([]api.Rec{record("\x00", "")}, 65536)
		l = append(l, stage{m: m, e: api.ErrLong})
	}
	m := full()
	m.Q = slices.Repeat([]api.Question{question("\x00")}, 65536)
	return append(l, stage{m: m, e: api.ErrLong})
}

// P10.1, rule 1: what may not be is refused ahead of the size, whichever that is, and also where what is wrong would be left out.
func TestFitRefused(t *testing.T) {
	for _, s := range bad() {
		if e := msg.Check(s.m); e != s.e {
			t.Fatalf("Check(%s) = %v, not %v", brief(s.m), e, s.e)
		}
		for _, size := range append(outside(), 12, 13, 19, 46, 512, 65534, 65535) {
			b, n, e := Fit(s.m, size)
			if b != nil || n != 0 || e != s.e {
				t.Fatalf("Fit(%s, %d) = %.99q, %d, %v, not %v", brief(s.m), size, b, n, e, s.e)
			}
		}
	}
	// Were the size asked first, this would be ErrRange.
	fits(t, api.Message{Q: []api.Question{{}}}, 11, nil, 0, api.ErrBytes)
	fits(t, api.Message{Q: []api.Question{{}}}, 65536, nil, 0, api.ErrBytes)
}

// P10.1: a message that has just as many bytes as it may, and one that has one byte more, wherever these stand.
func TestFitMost(t *testing.T) {
	for i := range 3 {
		for _, last := range []api.Rec{record("\x00", filler(65512)), option("\x00", filler(65512))} {
			var m, more api.Message
			*lists(&m)[i] = []api.Rec{last}
			want, _ := msg.Write(m)
			if len(want) != 65535 {
				t.Fatal(len(want))
			}
			fits(t, m, 65535, want, 0, api.OK)
			last.Data += "x"
			*lists(&more)[i] = []api.Rec{last}
			for _, c := range []struct {
				m    api.Message
				size int
			}{{m, 65534}, {more, 65535}} {
				head := "\x00\x00\x02\x00\x00\x00\x00\x00\x00\x00\x00\x00"
				if i == 2 {
					head = "\x00\x00\x00\x00\x00\x00\x00\x00\x00\x00\x00\x00"
				}
				fits(t, c.m, c.size, []byte(head), 1, api.OK)
			}
		}
	}
}

// P10.1: messages of more bytes than any message may have, of which no more is left out than has to be.
func TestFitLong(t *testing.T) {
	for i := range 3 {
		for _, size := range []int{65533, 65534, 65535} {
			m := asking()
			*lists(&m)[i] = []api.Rec{record("\x00", filler(size-19-11)), record("\x00", filler(65535)), record("\x00", "")}
			want := asking()
			*lists(&want)[i] = (*lists(&m)[i])[:1]
			if i < 2 {
				want.Flags |= 512
			}
			b, _ := msg.Write(want)
			fits(t, m, size, b, 2, api.OK)
		}
	}
	// As many entries as there may be: 13,104 questions fit, or 5,956 records.
	q, l := slices.Repeat([]api.Question{question("\x00")}, 65535), slices.Repeat([]api.Rec{record("\x00", "")}, 65535)
	for _, c := range []struct {
		m, want api.Message
		n       int
	}{
		{api.Message{Q: q}, api.Message{Flags: 512, Q: q[:13104]}, 65535 - 13104},
		{api.Message{Q: q, An: l, Ns: l, Ar: l}, api.Message{Flags: 512, Q: q[:13104]}, 4*65535 - 13104},
		{api.Message{An: l, Ns: l, Ar: l}, api.Message{Flags: 512, An: l[:5956]}, 3*65535 - 5956},
		{api.Message{Ns: l, Ar: l}, api.Message{Flags: 512, Ns: l[:5956]}, 2*65535 - 5956},
		{api.Message{Ar: l}, api.Message{Ar: l[:5956]}, 65535 - 5956},
	} {
		b, e := msg.Write(c.want)
		if e != api.OK {
			t.Fatal(e)
		}
		fits(t, c.m, 65535, b, c.n, api.OK)
	}
}
