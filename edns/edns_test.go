package edns

import (
	"fmt"
	"math"
	"slices"
	"strings"
	"testing"

	"ostiary/api"
	"ostiary/rec"
	"ostiary/sample"
)

var (
	named, filler, word = sample.Named, sample.Filler, sample.Word
	lists, same, none   = sample.Lists, sample.Same, sample.None
	roomy, clone        = sample.Roomy, sample.Clone
)

// opt tells a record of TypeOPT.
func opt(class, ttl int, data string) api.Rec {
	return api.Rec{Name: "\x00", Type: 41, Class: class, TTL: ttl, Data: data}
}

// other tells a record of another type, of which there are many.
func other(i int) api.Rec {
	types := []int{1, 16, 40, 42, 0, 999, 41 + 65536, -41, 41 << 8, 29}
	return api.Rec{Name: named("a"), Type: types[i%len(types)], Class: 1, TTL: i, Data: "\x03abc"}
}

// with tells a message that has records in one of its lists.
func with(list int, l ...api.Rec) api.Message {
	var m api.Message
	*lists(&m)[list] = l
	return m
}

// plain tells the bytes of an option.
func plain(code int, data string) string { return word(code, 2) + word(len(data), 2) + data }

// sameSaid tells whether the same is said; nil lists and empty ones are.
func sameSaid(a, b api.Edns) bool {
	return a.Size == b.Size && a.Ext == b.Ext && a.Version == b.Version && a.Do == b.Do && slices.Equal(a.Options, b.Options)
}

// nothing tells whether nothing at all is said.
func nothing(e api.Edns) bool { return sameSaid(e, api.Edns{}) && e.Options == nil }

// short tells in few words what is said, for what a test says.
func short(e api.Edns) string {
	return fmt.Sprintf("size %d, ext %d, version %d, do %v, %d options %.200s", e.Size, e.Ext, e.Version, e.Do, len(e.Options), fmt.Sprint(e.Options))
}

// brief tells a message in few words, for what a test says.
func brief(m api.Message) string {
	return fmt.Sprintf("%d %d, %d questions %.200v, %d, %d, %d records %.200v %.200v %.200v", m.ID, m.Flags, len(m.Q), m.Q, len(m.An), len(m.Ns), len(m.Ar), m.An, m.Ns, m.Ar)
}

// outside tells numbers that two bytes do not tell.
func outside() []int {
	return []int{math.MinInt, math.MinInt + 5, -1 << 32, -1 << 31, -65536, -65535, -256, -2, -1, 65536, 65537, 1 << 17, 1 << 31, 1<<32 - 1, 1 << 32, 1<<32 + 5, math.MaxInt}
}

// inside tells numbers that they do.
func inside() []int {
	return []int{0, 1, 2, 127, 128, 255, 256, 258, 511, 512, 513, 1232, 4096, 32767, 32768, 65534, 65535}
}

// checked tells what Check is to tell, and the bytes of the options.
func checked(e api.Edns) (api.Errno, string) {
	wrong := 0
	for _, n := range [][2]int{{e.Size, 65536}, {e.Ext, 128}, {e.Version, 256}} {
		if n[0] < 0 || n[0] >= n[1] {
			wrong++
		}
	}
	var b strings.Builder
	for _, o := range e.Options {
		if o.Code < 0 || o.Code >= 65536 {
			wrong++
		}
		b.WriteString(plain(o.Code, o.Data))
	}
	if wrong > 0 {
		return api.ErrRange, ""
	}
	if b.Len() >= 65536 {
		return api.ErrArg, ""
	}
	return api.OK, b.String()
}

// checks holds what Check tells against what it is to tell; what was handed in has to stay as it was, and what is behind it does not matter.
func checks(t *testing.T, e api.Edns, want api.Errno) {
	t.Helper()
	all := append(slices.Clone(e.Options), api.Option{Code: -1}, api.Option{Data: filler(65536)})
	was := slices.Clone(all)
	e.Options = all[:len(e.Options)]
	if got := Check(e); got != want {
		t.Fatalf("Check(%s) = %v, not %v", short(e), got, want)
	}
	if !slices.Equal(all, was) {
		t.Fatalf("Check(%s) changed it", short(e))
	}
}

// P9.1: what may be said.
func TestCheckGood(t *testing.T) {
	checks(t, api.Edns{}, api.OK)
	checks(t, api.Edns{Size: 1232, Do: true}, api.OK)
	checks(t, api.Edns{Size: 65535, Ext: 127, Version: 255, Do: true, Options: []api.Option{{Code: 65535, Data: "x"}, {}, {Code: 8}}}, api.OK)
	s := sample.New()
	for range 500 {
		checks(t, s.Edns(), api.OK)
	}
}

// P9.1: the bounds of each number, by itself, and of an option's code wherever it stands.
func TestCheckNumbers(t *testing.T) {
	verdict := func(n, most int) api.Errno {
		if n < 0 || n > most {
			return api.ErrRange
		}
		return api.OK
	}
	for _, n := range append(outside(), inside()...) {
		checks(t, api.Edns{Size: n}, verdict(n, 65535))
		checks(t, api.Edns{Ext: n}, verdict(n, 127))
		checks(t, api.Edns{Version: n}, verdict(n, 255))
		for place := range 4 {
			l := slices.Insert(make([]api.Option, 3), place, api.Option{Code: n, Data: "x"})
			checks(t, api.Edns{Options: l}, verdict(n, 65535))
		}
	}
	for n := -300; n < 600; n++ {
		checks(t, api.Edns{Ext: n}, verdict(n, 127))
		checks(t, api.Edns{Version: n}, verdict(n, 255))
	}
	for n := -70000; n < 140000; n++ {
		if e := Check(api.Edns{Size: n}); e != verdict(n, 65535) {
			t.Fatalf("size %d: %v", n, e)
		}
		if e := Check(api.Edns{Options: []api.Option{{Code: n}}}); e != verdict(n, 65535) {
			t.Fatalf("code %d: %v", n, e)
		}
	}
}

// bulky tells options of so many bytes in all, as the record has them, in so many options.
func bulky(size, count int) []api.Option {
	l := make([]api.Option, count)
	for i := range l {
		l[i].Code = i
	}
	l[count/2].Data = filler(size - 4*count)
	return l
}

// P9.1: how many bytes the options have at most, as the record has them: in one option, in a few, in as many as there may be.
func TestCheckBytes(t *testing.T) {
	for _, count := range []int{1, 2, 3, 255, 256, 16000, 16383} {
		for size, want := range map[int]api.Errno{65534: api.OK, 65535: api.OK, 65536: api.ErrArg, 65537: api.ErrArg, 65540: api.ErrArg, 131071: api.ErrArg, 131072: api.ErrArg, 1 << 20: api.ErrArg} {
			checks(t, api.Edns{Options: bulky(size, count)}, want)
		}
	}
	for count, want := range map[int]api.Errno{1: api.OK, 16383: api.OK, 16384: api.ErrArg, 16385: api.ErrArg, 32768: api.ErrArg, 65536: api.ErrArg} {
		checks(t, api.Edns{Options: make([]api.Option, count)}, want)
	}
	for size, want := range map[int]api.Errno{65531: api.OK, 65532: api.ErrArg, 65535: api.ErrArg, 65536: api.ErrArg, 131072: api.ErrArg} {
		checks(t, api.Edns{Options: []api.Option{{Data: filler(size)}}}, want)
	}
	checks(t, api.Edns{Options: []api.Option{{Data: filler(40000)}, {Data: filler(40000)}}}, api.ErrArg)
	checks(t, api.Edns{Options: []api.Option{{Data: filler(32767)}, {Data: filler(32760)}}}, api.OK)
	checks(t, api.Edns{Options: []api.Option{{Data: filler(32767)}, {Data: filler(32761)}}}, api.ErrArg)
}

// P9.1, rule 1: each number's bounds are told ahead of how many bytes there are.
func TestCheckOrder(t *testing.T) {
	numbers := []int{0, 127, -1, 128, 256, 65536}
	lists := [][]api.Option{nil, {{Code: 5}}, {{Code: -1}}, {{Code: 65536}}, bulky(65535, 3), bulky(65536, 3), append(bulky(65535, 3), api.Option{Code: -1}), append(bulky(65536, 3), api.Option{Code: 65536}), append([]api.Option{{Code: -1}}, bulky(65536, 1)...), append(make([]api.Option, 20000), api.Option{Code: -5})}
	seen := map[api.Errno]int{}
	for _, size := range numbers {
		for _, ext := range numbers {
			for _, version := range numbers {
				for _, l := range lists {
					e := api.Edns{Size: size, Ext: ext, Version: version, Options: l}
					want, _ := checked(e)
					checks(t, e, want)
					seen[want]++
				}
			}
		}
	}
	if seen[api.OK] < 20 || seen[api.ErrArg] < 20 || seen[api.ErrRange] < 20 {
		t.Error(seen)
	}
	for _, e := range []api.Edns{{Size: -1}, {Size: 65536}, {Ext: -1}, {Ext: 128}, {Ext: 255}, {Version: -1}, {Version: 256}} {
		e.Options = bulky(65536, 1)
		checks(t, e, api.ErrRange)
	}
	checks(t, api.Edns{Options: bulky(65536, 1)}, api.ErrArg)
}

// listed parts data into options by taking them off from the front, and tells whether they are options alone.
func listed(data string) ([]api.Option, bool) {
	var l []api.Option
	for data != "" {
		if len(data) < 4 {
			return nil, false
		}
		size := 256*int(data[2]) + int(data[3])
		if len(data)-4 < size {
			return nil, false
		}
		l = append(l, api.Option{Code: 256*int(data[0]) + int(data[1]), Data: data[4 : 4+size]})
		data = data[4+size:]
	}
	return l, true
}

// told tells what Of is to tell: the record is looked for in all lists as one, and its TTL is parted as four bytes.
func told(m api.Message) (api.Edns, bool, api.Errno) {
	var at []int
	for i, x := range slices.Concat(m.An, m.Ns, m.Ar) {
		if x.Type == 41 {
			at = append(at, i-len(m.An)-len(m.Ns))
		}
	}
	if len(at) == 0 {
		return api.Edns{}, false, api.OK
	}
	if len(at) != 1 || at[0] < 0 {
		return api.Edns{}, false, api.ErrBytes
	}
	x := m.Ar[at[0]]
	l, whole := listed(x.Data)
	if x.Name != "\x00" || x.Class != x.Class&65535 || x.TTL != x.TTL&(1<<31-1) || !whole {
		return api.Edns{}, false, api.ErrBytes
	}
	ttl := word(x.TTL, 4)
	return api.Edns{Size: x.Class, Ext: int(ttl[0]), Version: int(ttl[1]), Do: ttl[2] >= 128, Options: l}, true, api.OK
}

// says holds what Of tells against what it is to tell; what was handed in has to stay as it was, and what is behind it does not matter.
func says(t *testing.T, m api.Message, want api.Edns, is bool, f api.Errno) {
	t.Helper()
	m, all := roomy(m)
	was := clone(all)
	e, told, got := Of(m)
	if !sameSaid(e, want) || told != is || got != f || !is && !nothing(e) {
		t.Fatalf("Of(%s) = %s, %v, %v, not %s, %v, %v", brief(m), short(e), told, got, short(want), is, f)
	}
	if !same(all, was) {
		t.Fatalf("Of(%s) changed it", brief(m))
	}
}

// saysAs holds what Of tells against what another way tells, and tells that.
func saysAs(t *testing.T, m api.Message) (bool, api.Errno) {
	t.Helper()
	want, is, f := told(m)
	says(t, m, want, is, f)
	return is, f
}

// P9.2: the chapter's examples, and others of each kind.
func TestOfExamples(t *testing.T) {
	says(t, api.Message{}, api.Edns{}, false, api.OK)
	says(t, with(2, opt(1232, 32768, "")), api.Edns{Size: 1232, Do: true}, true, api.OK)
	says(t, with(2, opt(1232, 0, ""), opt(1232, 0, "")), api.Edns{}, false, api.ErrBytes)
	says(t, with(2, opt(0, 0, "\x00\x01\x00\x02\x09")), api.Edns{}, false, api.ErrBytes)
	says(t, with(2, opt(0, 0, "\x00\x01\x00\x01\x09")), api.Edns{Options: []api.Option{{Code: 1, Data: "\x09"}}}, true, api.OK)
	says(t, with(2, opt(65535, 127<<24|255<<16|1<<15, "\x00\x0a\x00\x03abc\xff\xff\x00\x00\x00\x00\x00\x02de")), api.Edns{Size: 65535, Ext: 127, Version: 255, Do: true, Options: []api.Option{{Code: 10, Data: "abc"}, {Code: 65535}, {Data: "de"}}}, true, api.OK)
	says(t, with(2, opt(512, 1<<24|2<<16, "")), api.Edns{Size: 512, Ext: 1, Version: 2}, true, api.OK)
}

// P9.2: a message without a record of TypeOPT says nothing, whatever else it has, and whether it may be or not.
func TestOfNone(t *testing.T) {
	s := sample.New()
	for i := range 300 {
		m := s.Message()
		says(t, m, api.Edns{}, false, api.OK)
		m.Q = append(m.Q, api.Question{Name: "\x00", Type: 41, Class: 1232})
		m.ID, m.Flags = -i, 1<<20
		for list := range 3 {
			*lists(&m)[list] = append(*lists(&m)[list], other(i), other(i+1), api.Rec{})
		}
		says(t, m, api.Edns{}, false, api.OK)
	}
}

// P9.2: records of TypeOPT in the lists, up to three in each, alone, ahead of others, behind them and between.
func TestOfPlaces(t *testing.T) {
	seen := map[api.Errno]int{}
	x := opt(1232, 5<<24|1<<15, plain(8, "xy"))
	for i := range 4 * 4 * 4 {
		for others := range 4 {
			for place := range others + 1 {
				m := api.Message{ID: i, Flags: others}
				for list, n := range []int{i % 4, i / 4 % 4, i / 16} {
					l := []api.Rec{other(i), other(i + 1), other(i + 2)}[:others]
					*lists(&m)[list] = slices.Insert(slices.Clone(l), place, slices.Repeat([]api.Rec{x}, n)...)
				}
				if is, f := saysAs(t, m); is != (i == 16) {
					t.Fatalf("Of(%s) = %v, %v", brief(m), is, f)
				} else if f == api.ErrBytes && i == 0 || f == api.OK && i != 0 && i != 16 {
					t.Fatalf("Of(%s) = %v, %v", brief(m), is, f)
				} else {
					seen[f]++
				}
			}
		}
	}
	if seen[api.OK] == 0 || seen[api.ErrBytes] == 0 {
		t.Error(seen)
	}
	// Two that do not stand beside each other; one that can't be read beside one that can.
	says(t, with(2, x, other(0), x), api.Edns{}, false, api.ErrBytes)
	says(t, with(2, x, opt(-1, -1, "\x00")), api.Edns{}, false, api.ErrBytes)
	says(t, with(2, opt(-1, -1, "\x00"), x), api.Edns{}, false, api.ErrBytes)
	for list := range 2 {
		says(t, with(list, x), api.Edns{}, false, api.ErrBytes)
		says(t, with(list, api.Rec{Type: 41}), api.Edns{}, false, api.ErrBytes)
		m := with(2, x)
		*lists(&m)[list] = []api.Rec{{Type: 41}}
		says(t, m, api.Edns{}, false, api.ErrBytes)
	}
}

// P9.2: the other lists, the questions and the head do not matter: a message that says something may be none itself.
func TestOfWhateverElse(t *testing.T) {
	s := sample.New()
	for range 500 {
		m, e := s.Message(), s.Edns()
		_, data := checked(e)
		x := opt(e.Size, e.Ext<<24+e.Version<<16+map[bool]int{true: 32768}[e.Do], data)
		m.Ar = slices.Insert(m.Ar, s.Below(len(m.Ar)+1), x)
		says(t, m, e, true, api.OK)
		m.ID, m.Flags = -1, math.MinInt
		m.Q, m.An, m.Ns = append(m.Q, api.Question{Name: "a", Type: -1}), append(m.An, api.Rec{TTL: -1}), append(m.Ns, other(7))
		m.Ar = append(slices.Insert(m.Ar, 0, api.Rec{}), api.Rec{Class: -1})
		says(t, m, e, true, api.OK)
	}
}

// P9.2: its name is the root's, byte by byte.
func TestOfName(t *testing.T) {
	for _, n := range []string{"", "\x00\x00", "\x01", "a", ".", "\x01a\x00", "\x01a", "\x00a", "\xc0\x00", "\x20", "0", "\xff", named("a", "b"), sample.Sized(255), sample.Sized(300)} {
		x := opt(1232, 0, "")
		x.Name = n
		says(t, with(2, x), api.Edns{}, false, api.ErrBytes)
	}
	for c := range 256 {
		x := opt(1232, 0, "")
		x.Name = string([]byte{byte(c)})
		if is, _ := saysAs(t, with(2, x)); is != (c == 0) {
			t.Errorf("byte %d: %v", c, is)
		}
	}
}

// P9.2: its class is how many bytes are taken, from 0 to 65,535.
func TestOfClass(t *testing.T) {
	for _, n := range inside() {
		says(t, with(2, opt(n, 0, "")), api.Edns{Size: n}, true, api.OK)
		says(t, with(2, opt(n, 32768, plain(n, "x"))), api.Edns{Size: n, Do: true, Options: []api.Option{{Code: n, Data: "x"}}}, true, api.OK)
	}
	for _, n := range outside() {
		says(t, with(2, opt(n, 0, "")), api.Edns{}, false, api.ErrBytes)
		says(t, with(2, opt(n, 32768, plain(8, "x"))), api.Edns{}, false, api.ErrBytes)
	}
}

// P9.2: its TTL, bit by bit: those of Ext, those of Version, Do; those below are not looked at.
func TestOfTTL(t *testing.T) {
	for bit := range 64 {
		n := 1 << bit
		want, is, f := api.Edns{}, true, api.OK
		switch {
		case bit >= 31:
			is, f = false, api.ErrBytes
		case bit >= 24:
			want.Ext = 1 << (bit - 24)
		case bit >= 16:
			want.Version = 1 << (bit - 16)
		case bit == 15:
			want.Do = true
		}
		says(t, with(2, opt(0, n, "")), want, is, f)
		if bit < 31 {
			want = api.Edns{Ext: 127 - want.Ext, Version: 255 - want.Version, Do: !want.Do}
			says(t, with(2, opt(0, 1<<31-1-n, "")), want, is, f)
		}
	}
	for n, want := range map[int]api.Edns{0: {}, 1<<15 - 1: {}, 1 << 15: {Do: true}, 1<<16 - 1: {Do: true}, 1 << 16: {Version: 1}, 255 << 16: {Version: 255}, 1 << 24: {Ext: 1}, 127 << 24: {Ext: 127}, 1<<31 - 1: {Ext: 127, Version: 255, Do: true}, 5<<24 | 6<<16 | 7: {Ext: 5, Version: 6}} {
		says(t, with(2, opt(0, n, "")), want, true, api.OK)
	}
	for _, n := range []int{-1, -2, -32768, -1 << 31, math.MinInt, 1 << 31, 1<<31 + 1, 1<<31 | 1<<15, 128 << 24, 1<<32 - 1, 1 << 32, 1<<32 | 1<<15, math.MaxInt} {
		says(t, with(2, opt(1232, n, "")), api.Edns{}, false, api.ErrBytes)
	}
	s := sample.New()
	for range 5000 {
		saysAs(t, with(2, opt(s.Below(1<<16), s.Below(1<<32), "")))
	}
}

// P9.2: data that end within an option's code, within its length, within its data, or with bytes left behind the last one.
func TestOfData(t *testing.T) {
	l := []api.Option{{Code: 258, Data: "abc"}, {Code: 3}, {Code: 65535, Data: filler(300)}, {Data: "\x00"}, {}}
	data, ends := "", map[int]int{0: 0}
	for i, o := range l {
		data += plain(o.Code, o.Data)
		ends[len(data)] = i + 1
	}
	for cut := range len(data) + 1 {
		n, whole := ends[cut]
		if whole {
			says(t, with(2, opt(5, 0, data[:cut])), api.Edns{Size: 5, Options: l[:n]}, true, api.OK)
		} else {
			says(t, with(2, opt(5, 0, data[:cut])), api.Edns{}, false, api.ErrBytes)
		}
		for _, left := range []string{"\x00", "\x00\x00", "\x00\x01\x00", "\xff\xff\x00\x01", "\xff\xff\xff\xff", "\x00\x08\x00\x03xy"} {
			saysAs(t, with(2, opt(5, 0, data[:cut]+left)))
			if whole {
				says(t, with(2, opt(5, 0, data[:cut]+left)), api.Edns{}, false, api.ErrBytes)
			}
		}
	}
	for _, n := range inside() {
		says(t, with(2, opt(0, 0, plain(n, ""))), api.Edns{Options: []api.Option{{Code: n}}}, true, api.OK)
		says(t, with(2, opt(0, 0, plain(8, filler(n)))), api.Edns{Options: []api.Option{{Code: 8, Data: filler(n)}}}, true, api.OK)
		if n > 0 {
			says(t, with(2, opt(0, 0, plain(8, filler(n))[:n+3])), api.Edns{}, false, api.ErrBytes)
		}
		says(t, with(2, opt(0, 0, plain(8, filler(n))+"\x00")), api.Edns{}, false, api.ErrBytes)
	}
}

// P9.2: all short data of chosen bytes; the same ones with an option ahead.
func TestOfEachShort(t *testing.T) {
	read := 0
	for _, data := range sample.Words("\x00\x01\x02\x04", 6) {
		for _, ahead := range []string{"", "\x00\x08\x00\x01x"} {
			if is, _ := saysAs(t, with(2, opt(0, 0, ahead+data))); is {
				read++
			}
		}
	}
	for size := range 30 {
		saysAs(t, with(2, opt(0, 0, strings.Repeat("\x00", size))))
	}
	if read < 100 {
		t.Errorf("only %d are options", read)
	}
}

// P9.2: records of which something is changed, many of them.
func TestOfRandom(t *testing.T) {
	s := sample.New()
	read := 0
	for range 3000 {
		_, data := checked(s.Edns())
		b := []byte(data)
		for range s.Below(3) {
			if len(b) > 0 {
				b[s.Below(len(b))] = []byte{0, 0, 1, 2, 3, 4, byte(s.Below(256))}[s.Below(7)]
			}
		}
		b = append(b, s.Bytes(s.Below(40)/35)...)
		if is, _ := saysAs(t, with(2, opt(s.Below(1<<16), s.Below(1<<31), string(b[:len(b)-min(len(b), s.Below(30)/28)])))); is {
			read++
		}
	}
	if read < 1000 {
		t.Errorf("only %d are options", read)
	}
}

// P9.2: as many options as a record has room for, and data of one that has all of it; more than a record that may be has are options, too.
func TestOfMost(t *testing.T) {
	for _, count := range []int{1, 2, 16383} {
		for _, size := range []int{65534, 65535, 65536, 70000} {
			l := bulky(size, count)
			if len(l[count/2].Data) > 65535 {
				continue
			}
			var data strings.Builder
			for _, o := range l {
				data.WriteString(plain(o.Code, o.Data))
			}
			x := opt(0, 0, data.String())
			if len(x.Data) != size || (rec.Check(x) == api.OK) != (size <= 65535) {
				t.Fatalf("%d options of %d bytes: %v", count, size, rec.Check(x))
			}
			says(t, with(2, x), api.Edns{Options: l}, true, api.OK)
			x.Data = data.String() + "\x00"
			says(t, with(2, x), api.Edns{}, false, api.ErrBytes)
			x.Data = data.String()[:size-1]
			if count > 1 {
				says(t, with(2, x), api.Edns{}, false, api.ErrBytes)
			}
		}
	}
}
