package sample

import (
	"slices"

	"ostiary/api"
)

// Message tells a message with up to three entries in each of its lists, which says nothing besides.
func (s *Source) Message() api.Message {
	m := api.Message{ID: s.Below(1 << 16), Flags: s.Below(1 << 16)}
	for range s.Below(4) {
		m.Q = append(m.Q, s.Question())
	}
	for _, l := range Lists(&m) {
		for range s.Below(4) {
			*l = append(*l, s.Rec())
		}
	}
	return m
}

// Edns tells something that may be said besides.
func (s *Source) Edns() api.Edns {
	e := api.Edns{Size: s.Below(1 << 16), Ext: s.Below(128), Version: s.Below(256), Do: s.Below(2) == 0}
	for range s.Below(4) {
		e.Options = append(e.Options, api.Option{Code: s.Below(1 << 16), Data: s.Bytes(s.Below(20))})
	}
	return e
}

// Lists tells the lists of a message in which records stand.
func Lists(m *api.Message) []*[]api.Rec { return []*[]api.Rec{&m.An, &m.Ns, &m.Ar} }

// Same tells whether two messages are the same; nil lists and empty ones are.
func Same(a, b api.Message) bool {
	return a.ID == b.ID && a.Flags == b.Flags && slices.Equal(a.Q, b.Q) && slices.Equal(a.An, b.An) && slices.Equal(a.Ns, b.Ns) && slices.Equal(a.Ar, b.Ar)
}

// None tells whether a message is the zero one.
func None(m api.Message) bool {
	return Same(m, api.Message{}) && m.Q == nil && m.An == nil && m.Ns == nil && m.Ar == nil
}

// Roomy tells a message as it is, behind whose entries there is room in which bad ones stand, and all that is there.
func Roomy(m api.Message) (api.Message, api.Message) {
	all := api.Message{ID: m.ID, Flags: m.Flags, Q: append(slices.Clone(m.Q), api.Question{Name: "bad"}, api.Question{Type: -1})}
	m.Q = all.Q[:len(m.Q)]
	for i, l := range Lists(&m) {
		*Lists(&all)[i] = append(slices.Clone(*l), api.Rec{Name: "bad", Type: api.TypeOPT}, api.Rec{Type: -1})
		*l = (*Lists(&all)[i])[:len(*l)]
	}
	return m, all
}

// Clone tells a message whose lists are its own.
func Clone(m api.Message) api.Message {
	m.Q, m.An, m.Ns, m.Ar = slices.Clone(m.Q), slices.Clone(m.An), slices.Clone(m.Ns), slices.Clone(m.Ar)
	return m
}
