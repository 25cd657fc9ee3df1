package trim

import (
	"slices"
	"strings"
	"testing"

	"ostiary/api"
	"ostiary/msg"
)

// labelled tells a message by the first labels of its entries' names, list by list, and a + behind them, if it has FlagTC.
func labelled(m api.Message) string {
	var l [4][]string
	for _, q := range m.Q {
		l[0] = append(l[0], label(q.Name))
	}
	for i, r := range lists(&m) {
		for _, x := range *r {
			l[i+1] = append(l[i+1], label(x.Name))
		}
	}
	told := ""
	for i := range l {
		told += strings.Join(l[i], " ") + "|"
	}
	if m.Flags&512 != 0 {
		told += "+"
	}
	return told
}

// label tells the first label of a name.
func label(n string) string { return n[1 : 1+n[0]] }

// from makes the message that labelled tells so: names that begin with O are those of records of TypeOPT.
func from(told string) api.Message {
	var m api.Message
	l := strings.Split(told, "|")
	for _, n := range strings.Fields(l[0]) {
		m.Q = append(m.Q, question(named(n)))
	}
	for i, r := range lists(&m) {
		for _, n := range strings.Fields(l[i+1]) {
			x := record(named(n), "")
			if n[0] == 'O' {
				x = option(named(n), "")
			}
			*r = append(*r, x)
		}
	}
	return m
}

// P10.1: entries are left out one by one, in the chapter's order, wherever OPTs stand; FlagTC is there just from the first one of Ns, of An, or question on.
func TestOrder(t *testing.T) {
	for _, l := range [][]string{
		// OPTs ahead of others, between them and behind them; such records elsewhere are as the others there.
		{"p q|a Ob c|Od e Of|Og h Oi j Ok|", "p q|a Ob c|Od e Of|Og h Oi Ok|", "p q|a Ob c|Od e Of|Og Oi Ok|", "p q|a Ob c|Od e|Og Oi Ok|+", "p q|a Ob c|Od|Og Oi Ok|+", "p q|a Ob c||Og Oi Ok|+", "p q|a Ob||Og Oi Ok|+", "p q|a||Og Oi Ok|+", "p q|||Og Oi Ok|+", "p q|||Og Oi|+", "p q|||Og|+", "p q||||+", "p||||+", "||||+"},
		// One OPT: first, last, between.
		{"q|a|b|O x y|", "q|a|b|O x|", "q|a|b|O|", "q|a||O|+", "q|||O|+", "q||||+", "||||+"},
		{"q|a|b|x y O|", "q|a|b|x O|", "q|a|b|O|", "q|a||O|+", "q|||O|+", "q||||+", "||||+"},
		{"q|a|b|x O y|", "q|a|b|x O|", "q|a|b|O|", "q|a||O|+", "q|||O|+", "q||||+", "||||+"},
		// Lists that have none.
		{"q|||O x|", "q|||O|", "q||||", "||||+"},
		{"|||O x P|", "|||O x|", "|||O|", "||||"},
		{"|||x O y|", "|||x O|", "|||O|", "||||"},
		{"||a|O|", "|||O|+", "||||+"},
		{"|a||O|", "|||O|+", "||||+"},
		{"|Oa||Ob|", "|||Ob|+", "||||+"},
		{"||Oa|Ob|", "|||Ob|+", "||||+"},
		{"|a|b||", "|a|||+", "||||+"},
		{"q|a|||", "q||||+", "||||+"},
		{"q r s||||", "q r||||+", "q||||+", "||||+"},
		{"||||"},
	} {
		m := from(l[0])
		whole, _ := msg.Write(m)
		var got []string
		for size := len(whole) + 3; size >= 12; size-- {
			b, n, e := Fit(m, size)
			back, f := msg.Read(b)
			if e != api.OK || f != (api.Fault{}) || n != len(got) && n != len(got)-1 {
				t.Fatalf("%s in %d bytes: %v, %v, %d left out behind %q", l[0], size, e, f, n, got)
			}
			if n == len(got) {
				got = append(got, labelled(back))
			}
			if got[n] != labelled(back) {
				t.Fatalf("%s in %d bytes: %s, not %s", l[0], size, labelled(back), got[n])
			}
		}
		if !slices.Equal(got, l) {
			t.Errorf("%q, not %q", got, l)
		}
	}
}

// P10.1: the flags are as they were, FlagTC among them, and have that one besides where one of Ns, of An, or a question is left out.
func TestFlags(t *testing.T) {
	// How many are left out, when it is the first one of these.
	for told, n := range map[string]int{"q|a|b|x O|": 2, "q|a||x O|": 2, "q|||x O|": 3, "|||x O|": 9, "||b||": 1, "|a|||": 1, "q||||": 1} {
		m := from(told)
		all := []int{0, 1, 255, 256, 511, 512, 513, 1023, 1024, 33155, 65023, 65535, 65024}
		for bit := range 16 {
			all = append(all, 1<<bit, 65535-1<<bit)
		}
		for _, flags := range all {
			m.Flags = flags
			for i, s := range stages(m) {
				b, out, _ := Fit(m, len(s.b))
				_, got, _ := msg.Head(b)
				want := flags
				if i >= n && flags/512%2 == 0 {
					want += 512
				}
				if out != i || got != want {
					t.Fatalf("%s with flags %d in %d bytes: %d left out, flags %d, not %d", told, flags, len(s.b), out, got, want)
				}
			}
		}
	}
}

// P10.1: how many bytes a message has hangs on what its names share: one that is told short as long as another entry stands is told whole behind that.
func TestShared(t *testing.T) {
	long := sized(100)
	// 12 bytes, 110 of the first record, 12 of each that shares its name.
	m := api.Message{An: []api.Rec{record(long, "")}, Ar: []api.Rec{option(long, ""), record(long, "")}}
	b, _ := msg.Write(m)
	if len(b) != 12+110+12+12 {
		t.Fatal(len(b))
	}
	fits(t, m, 146, b, 0, api.OK)
	without, _ := msg.Write(api.Message{An: m.An, Ar: m.Ar[:1]})
	for size := 134; size < 146; size++ {
		fits(t, m, size, without, 1, api.OK)
	}
	// Without the record of An the OPT's name is told whole: it has 110 bytes, behind 12.
	opt, _ := msg.Write(api.Message{Flags: 512, Ar: m.Ar[:1]})
	for size := 122; size < 134; size++ {
		fits(t, m, size, opt, 2, api.OK)
	}
	for size := 12; size < 122; size++ {
		fits(t, m, size, []byte("\x00\x00\x02\x00\x00\x00\x00\x00\x00\x00\x00\x00"), 3, api.OK)
	}
	// An OPT ahead of others tells them their names; they are left out ahead of it.
	m = api.Message{Q: []api.Question{question("\x00")}, Ar: []api.Rec{option(long, "abc"), record(long, "x"), {Name: named("b"), Type: 5, Class: 1, Data: long}}}
	for _, size := range edges(stages(m)) {
		n := first(stages(m), size)
		fits(t, m, size, stages(m)[n].b, n, api.OK)
	}
}
