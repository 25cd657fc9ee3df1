package edns

import (
	"fmt"
	"math"
	"slices"
	"strings"
	"testing"
	"unsafe"

	"ostiary/api"
	"ostiary/msg"
	"ostiary/sample"
)

// stripped tells what Strip is to tell.
func stripped(m api.Message) api.Message {
	m = clone(m)
	for _, l := range lists(&m) {
		*l = slices.DeleteFunc(*l, func(x api.Rec) bool { return x.Type == 41 })
	}
	return m
}

// placed tells what Put is to tell.
func placed(m api.Message, e api.Edns) (api.Message, api.Errno) {
	f, data := checked(e)
	if f != api.OK {
		return api.Message{}, f
	}
	if !same(m, stripped(m)) {
		return api.Message{}, api.ErrThere
	}
	do := 0
	if e.Do {
		do = 32768
	}
	m.Ar = slices.Concat(m.Ar, []api.Rec{opt(e.Size, e.Ext*16777216+e.Version*65536+do, data)})
	return m, api.OK
}

// strips holds what Strip tells against what it is to tell; what was handed in has to stay as it was, and what is behind it does not matter.
func strips(t *testing.T, m, want api.Message) {
	t.Helper()
	m, all := roomy(m)
	was := clone(all)
	if got := Strip(m); !same(got, want) {
		t.Fatalf("Strip(%s) = %s, not %s", brief(m), brief(got), brief(want))
	}
	if !same(all, was) {
		t.Fatalf("Strip(%s) changed it", brief(m))
	}
}

// puts holds what Put tells against what it is to tell; what was handed in has to stay as it was, and what is behind it does not matter.
func puts(t *testing.T, m api.Message, e api.Edns, want api.Message, f api.Errno) {
	t.Helper()
	m, all := roomy(m)
	was := clone(all)
	options := append(slices.Clone(e.Options), api.Option{Code: -1}, api.Option{Code: 5, Data: "bad"})
	before := slices.Clone(options)
	e.Options = options[:len(e.Options)]
	got, g := Put(m, e)
	if !same(got, want) || g != f || f != api.OK && !none(got) {
		t.Fatalf("Put(%s, %s) = %s, %v, not %s, %v", brief(m), short(e), brief(got), g, brief(want), f)
	}
	if !same(all, was) || !slices.Equal(options, before) {
		t.Fatalf("Put(%s, %s) changed what was handed in", brief(m), short(e))
	}
}

// P9.2: records of TypeOPT go from each list, wherever they stand, all of them; the others stay in their order, as they are.
func TestStrip(t *testing.T) {
	x := opt(1232, 5, "bad")
	for kinds := range 64 {
		for list := range 3 {
			m := api.Message{ID: 7, Flags: 258, Q: []api.Question{{Name: named("a"), Type: 41, Class: 41}, {Type: -1}}}
			want := clone(m)
			for i := range 6 {
				y := other(i)
				if kinds>>i&1 == 1 {
					y = x
				} else {
					*lists(&want)[list] = append(*lists(&want)[list], y)
				}
				*lists(&m)[list] = append(*lists(&m)[list], y)
			}
			strips(t, m, want)
			for beside := range 3 {
				if beside != list {
					*lists(&m)[beside] = []api.Rec{x, other(8), x, other(9), x}
					*lists(&want)[beside] = []api.Rec{other(8), other(9)}
				}
			}
			strips(t, m, want)
		}
	}
	strips(t, api.Message{}, api.Message{})
	for _, n := range outside() {
		strips(t, api.Message{ID: n, Flags: -n, An: []api.Rec{{Type: n}, {Type: 41, Class: n}, {Name: "bad", TTL: n}}}, api.Message{ID: n, Flags: -n, An: []api.Rec{{Type: n}, {Name: "bad", TTL: n}}})
	}
}

// P9.2: messages of all kinds, with such records strewn into them.
func TestStripRandom(t *testing.T) {
	s := sample.New()
	for range 2000 {
		m := s.Message()
		strips(t, m, m)
		for range s.Below(5) {
			l := lists(&m)[s.Below(3)]
			*l = slices.Insert(*l, s.Below(len(*l)+1), opt(s.Below(1<<17), s.Below(1<<33), s.Bytes(s.Below(9))))
		}
		strips(t, m, stripped(m))
	}
}

// P9.3: the chapter's examples, and others of each kind.
func TestPutExamples(t *testing.T) {
	puts(t, api.Message{}, api.Edns{Size: 1232, Do: true}, with(2, opt(1232, 32768, "")), api.OK)
	puts(t, with(2, opt(1232, 32768, "")), api.Edns{Size: 9}, api.Message{}, api.ErrThere)
	puts(t, api.Message{}, api.Edns{}, with(2, opt(0, 0, "")), api.OK)
	puts(t, api.Message{}, api.Edns{Size: 65535, Ext: 127, Version: 255, Do: true}, with(2, opt(65535, 1<<31-32768, "")), api.OK)
	puts(t, api.Message{}, api.Edns{Ext: 1, Version: 2, Options: []api.Option{{Code: 258, Data: "xyz"}, {}, {Code: 65535, Data: "\x00"}}}, with(2, opt(0, 1<<24+2<<16, "\x01\x02\x00\x03xyz\x00\x00\x00\x00\xff\xff\x00\x01\x00")), api.OK)
}

// P9.3: each number, where it stands in the record; none in another's place.
func TestPutNumbers(t *testing.T) {
	for _, n := range inside() {
		puts(t, api.Message{}, api.Edns{Size: n}, with(2, opt(n, 0, "")), api.OK)
		puts(t, api.Message{}, api.Edns{Options: []api.Option{{Code: n, Data: "x"}}}, with(2, opt(0, 0, plain(n, "x"))), api.OK)
		if n < 65532 {
			puts(t, api.Message{}, api.Edns{Options: []api.Option{{Data: filler(n)}}}, with(2, opt(0, 0, plain(0, filler(n)))), api.OK)
		}
	}
	for n := range 256 {
		puts(t, api.Message{}, api.Edns{Version: n}, with(2, opt(0, n*65536, "")), api.OK)
		if n < 128 {
			puts(t, api.Message{}, api.Edns{Ext: n}, with(2, opt(0, n*16777216, "")), api.OK)
			puts(t, api.Message{}, api.Edns{Ext: n, Version: 255 - n, Do: true}, with(2, opt(0, n*16777216+(255-n)*65536+32768, "")), api.OK)
		}
	}
}

// P9.3: the record stands behind all others of Ar, and nothing else is another, whether the message may be or not.
func TestPutPlace(t *testing.T) {
	e := api.Edns{Size: 1232, Ext: 3, Do: true, Options: []api.Option{{Code: 8, Data: "xy"}}}
	x := opt(1232, 3<<24+32768, plain(8, "xy"))
	for n := range 20 {
		var l []api.Rec
		for i := range n {
			l = append(l, other(i))
		}
		m := api.Message{ID: -1, Flags: 1 << 40, Q: []api.Question{{Type: 41}, {Name: "bad"}}, An: l, Ns: l, Ar: l}
		want := clone(m)
		want.Ar = append(want.Ar, x)
		puts(t, m, e, want, api.OK)
		puts(t, api.Message{An: l}, e, api.Message{An: l, Ar: []api.Rec{x}}, api.OK)
		puts(t, api.Message{Ns: l}, e, api.Message{Ns: l, Ar: []api.Rec{x}}, api.OK)
	}
	l := slices.Repeat([]api.Rec{other(0)}, 65535)
	puts(t, api.Message{Ar: l}, e, api.Message{Ar: append(slices.Clone(l), x)}, api.OK)
}

// P9.3: ErrThere for a record of TypeOPT in any of the lists, wherever it stands, and whatever it says.
func TestPutThere(t *testing.T) {
	for _, x := range []api.Rec{opt(1232, 0, ""), opt(0, 0, "bad"), {Type: 41}, {Name: named("a"), Type: 41, Class: -1, TTL: -1}} {
		for list := range 3 {
			for place := range 4 {
				m := api.Message{ID: 5, An: []api.Rec{other(1)}, Ns: []api.Rec{other(2)}, Ar: []api.Rec{other(3)}}
				*lists(&m)[list] = slices.Insert([]api.Rec{other(4), other(5), other(6)}, place, x)
				puts(t, m, api.Edns{}, api.Message{}, api.ErrThere)
				puts(t, m, api.Edns{Size: 512, Options: bulky(65535, 2)}, api.Message{}, api.ErrThere)
			}
			puts(t, with(list, x, x), api.Edns{}, api.Message{}, api.ErrThere)
		}
	}
}

// P9.3, rule 1: Check's error is told ahead of that there is one already.
func TestPutOrder(t *testing.T) {
	for _, e := range []api.Edns{{Size: -1}, {Size: 65536}, {Ext: -1}, {Ext: 128}, {Ext: 255}, {Version: -1}, {Version: 256}, {Options: []api.Option{{Code: -1}}}, {Options: []api.Option{{}, {Code: 65536}}}, {Options: bulky(65536, 1)}, {Options: bulky(70000, 300)}, {Size: -1, Options: bulky(65536, 1)}} {
		f, _ := checked(e)
		if f == api.OK {
			t.Fatal(short(e))
		}
		puts(t, api.Message{}, e, api.Message{}, f)
		for list := range 3 {
			puts(t, with(list, other(0)), e, api.Message{}, f)
			puts(t, with(list, opt(0, 0, "")), e, api.Message{}, f)
			puts(t, with(list, api.Rec{Type: 41}), e, api.Message{}, f)
		}
	}
}

// P9.3: as many options as there may be.
func TestPutMost(t *testing.T) {
	for _, count := range []int{1, 2, 300, 16383} {
		e := api.Edns{Size: 1, Options: bulky(65535, count)}
		_, data := checked(e)
		puts(t, api.Message{}, e, with(2, opt(1, 0, data)), api.OK)
		m, _ := Put(api.Message{}, e)
		says(t, m, e, true, api.OK)
	}
}

// P9.4: the code of any flags, 16 times an Ext besides where one is told.
func TestCode(t *testing.T) {
	for _, flags := range append(append(outside(), inside()...), 5, 15, 16, 31, -17, 33155) {
		low := (flags%16 + 16) % 16
		for ext := range 128 {
			x := opt(1232, ext<<24|255<<16|32767, "")
			for _, c := range []struct {
				l    []api.Rec
				want int
			}{{nil, low}, {[]api.Rec{other(ext)}, low}, {[]api.Rec{other(ext), x}, low + 16*ext}, {[]api.Rec{x, x}, low}, {[]api.Rec{opt(-1, ext<<24, "")}, low}, {[]api.Rec{opt(0, ext<<24, "bad")}, low}, {[]api.Rec{opt(0, ext<<24|1<<31, "")}, low}} {
				if got := Code(api.Message{Flags: flags, Ar: c.l}); got != c.want {
					t.Fatalf("flags %d, ext %d, %v: %d, not %d", flags, ext, c.l, got, c.want)
				}
			}
			for list := range 2 {
				m := with(list, x)
				m.Flags = flags
				if got := Code(m); got != low {
					t.Fatalf("flags %d, ext %d, in list %d: %d, not %d", flags, ext, list, got, low)
				}
			}
		}
	}
	if got := Code(api.Message{Flags: 33155, Ar: []api.Rec{opt(0, 1<<24, "")}}); got != 19 {
		t.Error(got)
	}
	if got := Code(api.Message{Flags: 32768, Ar: []api.Rec{opt(0, 1<<24, "")}}); got != api.BadVers {
		t.Error(got)
	}
	if got := Code(api.Message{Flags: 65535, Ar: []api.Rec{opt(0, 1<<31-1, "")}}); got != 2047 {
		t.Error(got)
	}
}

// P9.4: how many bytes are taken: at least 512, more where that is told.
func TestRoom(t *testing.T) {
	for n := range 65536 {
		want := 512
		if n > 512 {
			want = n
		}
		if got := Room(with(2, opt(n, 0, ""))); got != want {
			t.Fatalf("size %d: %d", n, got)
		}
	}
	for _, n := range append(outside(), inside()...) {
		l := []api.Message{{ID: n, Flags: n}, with(2, other(0)), with(0, opt(n, 0, "")), with(1, opt(n, 0, "")), with(2, opt(n, 0, ""), opt(n, 0, "")), with(2, opt(n, 1<<31, "")), with(2, opt(n, 0, "bad")), with(2, api.Rec{Type: 41, Class: n}), with(2, api.Rec{Name: "\x00", Type: 42, Class: n})}
		if n < 0 || n > 65535 {
			l = append(l, with(2, opt(n, 0, "")))
		}
		for _, m := range l {
			if got := Room(m); got != 512 {
				t.Fatalf("Room(%s) = %d", brief(m), got)
			}
		}
	}
	s := sample.New()
	for range 300 {
		m := s.Message()
		m.Ar = slices.Insert(m.Ar, s.Below(len(m.Ar)+1), opt(1232, s.Below(1<<31), plain(8, "x")))
		if got := Room(m); got != 1232 {
			t.Fatalf("Room(%s) = %d", brief(m), got)
		}
	}
}

// P9.5: what is put is told, of the bytes that are written, too; with it stripped the message is as it was.
func TestThereAndBack(t *testing.T) {
	s := sample.New()
	for range 3000 {
		m, e := s.Message(), s.Edns()
		want, f := placed(m, e)
		puts(t, m, e, want, f)
		put, f := Put(m, e)
		if f != api.OK {
			t.Fatalf("Put(%s, %s): %v", brief(m), short(e), f)
		}
		says(t, put, e, true, api.OK)
		strips(t, put, m)
		puts(t, put, e, api.Message{}, api.ErrThere)
		if Code(put) != m.Flags%16+16*e.Ext || Room(put) != max(512, e.Size) {
			t.Fatalf("Put(%s, %s): code %d, room %d", brief(m), short(e), Code(put), Room(put))
		}
		b, f := msg.Write(put)
		if f != api.OK {
			t.Fatalf("Put(%s, %s) is not written: %v", brief(m), short(e), f)
		}
		back, fault := msg.Read(b)
		if fault != (api.Fault{}) {
			t.Fatalf("Put(%s, %s) is not read: %v", brief(m), short(e), fault)
		}
		says(t, back, e, true, api.OK)
		strips(t, back, m)
	}
}

// P9.5: the greatest and the least of each, written and read.
func TestThereAndBackEdges(t *testing.T) {
	for _, e := range []api.Edns{{}, {Do: true}, {Size: 65535}, {Ext: 127}, {Version: 255}, {Size: 65535, Ext: 127, Version: 255, Do: true}, {Options: make([]api.Option, 16000)}, {Options: []api.Option{{}}}, {Options: bulky(65512, 1)}, {Size: 1, Options: bulky(65512, 16378)}} {
		m, f := Put(api.Message{}, e)
		if f != api.OK {
			t.Fatalf("Put of %s: %v", short(e), f)
		}
		b, f := msg.Write(m)
		if _, data := checked(e); f != api.OK || string(b[12:]) != sample.Plain(m.Ar[0]) || string(b[23:]) != data {
			t.Fatalf("Put of %s, written: %.99q, %v", short(e), b, f)
		}
		back, _ := msg.Read(b)
		says(t, back, e, true, api.OK)
		strips(t, back, api.Message{})
	}
	// An Ext of 128 or more, as it may stand in a message, is read as 0, as are Version and Do with it.
	head := "\x00\x00\x00\x00\x00\x00\x00\x00\x00\x00\x00\x01"
	for ttl, want := range map[int]api.Edns{1 << 31: {Size: 512}, 1<<32 - 1: {Size: 512}, 1<<31 - 1: {Size: 512, Ext: 127, Version: 255, Do: true}} {
		m, f := msg.Read([]byte(head + "\x00" + sample.Heading(41, 512, ttl, 0)))
		if f != (api.Fault{}) {
			t.Fatal(f)
		}
		says(t, m, want, true, api.OK)
	}
}

// span is a piece of memory.
type span struct{ from, to uintptr }

// text tells the memory of a text.
func text(s string) span {
	from := uintptr(unsafe.Pointer(unsafe.StringData(s)))
	return span{from, from + uintptr(len(s))}
}

// list tells the memory of a list, its spare room too.
func list[E any](l []E) span {
	var e E
	from := uintptr(unsafe.Pointer(unsafe.SliceData(l)))
	return span{from, from + uintptr(cap(l))*unsafe.Sizeof(e)}
}

// held tells the memory of a message.
func held(m api.Message) []span {
	l := []span{list(m.Q), list(m.An), list(m.Ns), list(m.Ar)}
	for _, q := range m.Q {
		l = append(l, text(q.Name))
	}
	for _, x := range slices.Concat(m.An, m.Ns, m.Ar) {
		l = append(l, text(x.Name), text(x.Data))
	}
	return l
}

// said tells the memory of what is said.
func said(e api.Edns) []span {
	l := []span{list(e.Options)}
	for _, o := range e.Options {
		l = append(l, text(o.Data))
	}
	return l
}

// apart tells whether no two pieces of memory, one of each, have anything in common, nor begin at the same place.
func apart(a, b []span) bool {
	for _, x := range a {
		for _, y := range b {
			if x.from < y.to && y.from < x.to || x.from == y.from && x.from != 0 {
				return false
			}
		}
	}
	return true
}

// fresh tells a message, with room behind its lists, all of which is memory of its own.
func fresh() api.Message {
	m := api.Message{ID: 7, Flags: 3}
	for i := range 3 {
		m.Q = append(m.Q, api.Question{Name: strings.Clone(named("question")), Type: i})
		for _, l := range lists(&m) {
			*l = append(*l, api.Rec{Name: strings.Clone(named("record")), Type: 1 + i, Data: strings.Clone("some data")})
		}
	}
	m, _ = roomy(m)
	return m
}

// freshSaid tells something to be said, all of which is memory of its own.
func freshSaid() api.Edns {
	return api.Edns{Size: 5, Options: []api.Option{{Code: 1, Data: strings.Clone("first option")}, {Code: 2, Data: strings.Clone("second option")}}}
}

// Rule 4: what is told is new memory: it has none in common with what was handed in, nor with what is told another time, spare room too.
func TestNewMemory(t *testing.T) {
	m, e := fresh(), freshSaid()
	put, _ := Put(m, e)
	again, _ := Put(m, e)
	if !apart(held(put), held(m)) || !apart(held(put), said(e)) || !apart(held(put), held(again)) {
		t.Error("Put")
	}
	if strip := Strip(m); !apart(held(strip), held(m)) || !apart(held(strip), held(Strip(m))) {
		t.Error("Strip")
	}
	if strip := Strip(put); !apart(held(strip), held(put)) || !same(strip, m) {
		t.Error("Strip of what was put")
	}
	one, _, _ := Of(put)
	two, _, _ := Of(put)
	if !apart(said(one), held(put)) || !apart(said(one), said(two)) || !apart(said(one), said(e)) {
		t.Error("Of")
	}
	// Lists of which nothing is left, and such as had nothing but room.
	for _, m := range []api.Message{with(0, opt(1, 2, "")), with(1, opt(1, 2, "")), with(2, opt(1, 2, "")), {}} {
		m, all := roomy(m)
		if strip := Strip(m); !apart(held(strip), held(all)) || !none(strip) {
			t.Errorf("Strip(%s) = %s", brief(m), brief(strip))
		}
	}
	m, all := roomy(api.Message{})
	if put, _ := Put(m, e); !apart(held(put), held(all)) || put.Q != nil || put.An != nil || put.Ns != nil {
		t.Error("Put into nothing")
	}
}

// Rule 4: one list that is handed in as several is told as several.
func TestListsApart(t *testing.T) {
	l := fresh().An
	m := api.Message{An: l, Ns: l, Ar: l}
	put, _ := Put(m, api.Edns{})
	for _, got := range []api.Message{put, Strip(m)} {
		for i, a := range lists(&got) {
			for j, b := range lists(&got) {
				if i != j && !apart([]span{list(*a)}, []span{list(*b)}) {
					t.Error(i, j)
				}
			}
		}
	}
}

// Rule 4: who writes on what is told, its spare room too, changes nothing that was handed in; who writes on that changes nothing that was told.
func TestWritingOn(t *testing.T) {
	for n := range 9 {
		l := slices.Repeat([]api.Rec{other(0)}, n)
		m, all := roomy(api.Message{Q: slices.Repeat([]api.Question{{Name: named("a")}}, n), An: l, Ns: l, Ar: l})
		was := clone(all)
		put, _ := Put(m, api.Edns{Size: 5})
		for _, got := range []api.Message{put, Strip(m)} {
			before := clone(got)
			for i := range all.Q {
				all.Q[i] = api.Question{Name: "x"}
			}
			for _, l := range lists(&all) {
				for i := range *l {
					(*l)[i] = api.Rec{Name: "x"}
				}
			}
			if !same(got, before) {
				t.Fatalf("%s, not %s", brief(got), brief(before))
			}
			for i, l := range lists(&all) {
				copy(*l, *lists(&was)[i])
			}
			copy(all.Q, was.Q)
			for i := range got.Q[:cap(got.Q)] {
				got.Q[:cap(got.Q)][i] = api.Question{Name: "z"}
			}
			for _, l := range lists(&got) {
				for i := range (*l)[:cap(*l)] {
					(*l)[:cap(*l)][i] = api.Rec{Name: "z"}
				}
			}
			if !same(all, was) {
				t.Fatalf("%s, not %s", brief(all), brief(was))
			}
		}
	}
	data := []byte(plain(8, "xy"))
	m := with(2, opt(0, 0, unsafe.String(&data[0], len(data))))
	e, _, _ := Of(m)
	copy(data, "zzzzzz")
	if !slices.Equal(e.Options, []api.Option{{Code: 8, Data: "xy"}}) {
		t.Error(short(e))
	}
}

// P1: no arguments make a call panic, and each tells what another way tells.
func TestAnyArguments(t *testing.T) {
	s := sample.New()
	odd := append(outside(), inside()...)
	number := func() int { return odd[s.Below(len(odd))] }
	for range 5000 {
		m := api.Message{ID: number(), Flags: number(), Q: []api.Question{{Name: s.Bytes(s.Below(3)), Type: number(), Class: number()}}}
		for _, l := range lists(&m) {
			for range s.Below(6) / 4 {
				*l = append(*l, api.Rec{Name: []string{"", "\x00", "a"}[s.Below(3)], Type: []int{41, number()}[s.Below(2)], Class: number(), TTL: number(), Data: s.Bytes(s.Below(6))})
			}
		}
		e := api.Edns{Size: number(), Ext: s.Below(130) - 1, Version: s.Below(258) - 1, Do: s.Below(2) == 0}
		for range s.Below(3) {
			e.Options = append(e.Options, api.Option{Code: number(), Data: s.Bytes(s.Below(3))})
		}
		f, _ := checked(e)
		checks(t, e, f)
		saysAs(t, m)
		strips(t, m, stripped(m))
		want, f := placed(m, e)
		puts(t, m, e, want, f)
		x, _, _ := told(m)
		if Code(m) != (m.Flags%16+16)%16+16*x.Ext || Room(m) != max(512, x.Size) {
			t.Fatalf("%s: code %d, room %d", brief(m), Code(m), Room(m))
		}
	}
	if e, is, f := Of(api.Message{Ar: []api.Rec{opt(math.MaxInt, math.MinInt, "")}}); !nothing(e) || is || f != api.ErrBytes {
		t.Error(short(e), is, f)
	}
}

// P1: what is answered hangs on what is handed in alone: many at the same time are told as one by one.
func TestAtOnce(t *testing.T) {
	s := sample.New()
	for i := range 8 {
		m, e := s.Message(), s.Edns()
		want, f := placed(m, e)
		t.Run(fmt.Sprint(i), func(t *testing.T) {
			t.Parallel()
			for range 200 {
				puts(t, m, e, want, f)
				says(t, want, e, true, api.OK)
				strips(t, want, m)
			}
		})
	}
}
