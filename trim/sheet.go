package trim

import (
	"cmp"
	"slices"

	"ostiary/api"
)

// root is the shortest of all names.
const root = "\x00"

// The kinds of entries, in the order in which they are left out.
const (
	otherInAr = iota // a record of Ar that is not of TypeOPT
	inNs
	inAn
	optInAr // a record of TypeOPT in Ar
	asked   // a question
)

// entry is an entry of a message: a question, or a record.
type entry struct {
	kind int
	q    api.Question
	x    api.Rec
	out  bool // it is left out
}

// sheet is a copy of a message, whose entries can be left out.
type sheet struct {
	id, flags int
	all       []entry  // in the order in which they stand in the message
	order     []*entry // those of all, in the order in which they are left out
}

// lay copies a message.
func lay(m api.Message) *sheet {
	s := &sheet{id: m.ID, flags: m.Flags}
	for _, q := range m.Q {
		s.all = append(s.all, entry{kind: asked, q: q})
	}
	for _, x := range m.An {
		s.all = append(s.all, entry{kind: inAn, x: x})
	}
	for _, x := range m.Ns {
		s.all = append(s.all, entry{kind: inNs, x: x})
	}
	for _, x := range m.Ar {
		s.all = append(s.all, additional(x))
	}
	// Only now are there pointers: while entries come, those that are there move.
	for i := range s.all {
		s.order = append(s.order, &s.all[i])
	}
	slices.Reverse(s.order)
	slices.SortStableFunc(s.order, func(a, b *entry) int { return cmp.Compare(a.kind, b.kind) })
	return s
}

// additional tells the entry of a record of Ar.
func additional(x api.Rec) entry {
	if x.Type == api.TypeOPT {
		return entry{kind: optInAr, x: x}
	}
	return entry{kind: otherInAr, x: x}
}

// without tells the message with so many of its entries left out.
func (s *sheet) without(n int) api.Message {
	m := api.Message{ID: s.id, Flags: s.flags}
	for i, e := range s.order {
		e.out = i < n
		if e.out && !e.inAr() {
			m.Flags |= api.FlagTC
		}
	}
	for i := range s.all {
		if e := &s.all[i]; !e.out {
			e.put(&m)
		}
	}
	return m
}

// inAr tells whether an entry is one of Ar, of which nobody is told when it is left out.
func (e *entry) inAr() bool { return e.kind == otherInAr || e.kind == optInAr }

// put puts an entry behind the others of its list.
func (e *entry) put(m *api.Message) {
	switch e.kind {
	case asked:
		m.Q = append(m.Q, e.q)
	case inAn:
		m.An = append(m.An, e.x)
	case inNs:
		m.Ns = append(m.Ns, e.x)
	default:
		m.Ar = append(m.Ar, e.x)
	}
}

// bare puts the root's name into the records of TypeOPT at the end of a message's Ar, which it changes, and tells how many bytes more their names have at least. With these, too, a bare message has fewer bytes with each entry less, and no more than the message itself: only what those names have beyond them may become more when an entry is left out.
func bare(m api.Message) (api.Message, int) {
	more := 0
	for i := len(m.Ar) - 1; i >= 0 && m.Ar[i].Type == api.TypeOPT; i-- {
		// Wherever another name is told, it has two bytes at least, those of a pointer.
		if m.Ar[i].Name != root {
			m.Ar[i].Name = root
			more++
		}
	}
	return m, more
}
