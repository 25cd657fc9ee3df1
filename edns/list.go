package edns

import (
	"strings"

	"ostiary/api"
)

// opts tells the records of a list that are of TypeOPT.
func opts(l []api.Rec) []api.Rec {
	return those(l, func(x api.Rec) bool { return x.Type == api.TypeOPT })
}

// others tells the records of a list that are not.
func others(l []api.Rec) []api.Rec {
	return those(l, func(x api.Rec) bool { return x.Type != api.TypeOPT })
}

// those tells the records of a list of which something is so, in their order.
func those(l []api.Rec, so func(x api.Rec) bool) []api.Rec {
	// A list cut to no room at all grows in new memory, not in that of who handed it in.
	kept := l[:0:0]
	for _, x := range l {
		if so(x) {
			kept = append(kept, x)
		}
	}
	return kept
}

// own tells a message as it is, but of which no list and no text is anybody else's.
func own(m api.Message) api.Message {
	asked := m.Q
	m.Q = nil
	for _, q := range asked {
		q.Name = strings.Clone(q.Name)
		m.Q = append(m.Q, q)
	}
	m.An, m.Ns, m.Ar = copied(m.An), copied(m.Ns), copied(m.Ar)
	return m
}

// copied tells the records of a list anew.
func copied(l []api.Rec) []api.Rec {
	var all []api.Rec
	for _, x := range l {
		x.Name, x.Data = strings.Clone(x.Name), strings.Clone(x.Data)
		all = append(all, x)
	}
	return all
}
