package msg

import (
	"ostiary/api"
	"ostiary/name"
	"ostiary/rec"
	"ostiary/wire"
)

// list is a pointer to one of a message's lists, whatever stands in it.
type list interface {
	// count tells how many entries there are.
	count() int

	// check tells why an entry may not be.
	check(i int) api.Errno

	// read puts the entry that stands at a place of a message behind the others, and tells where it ends.
	read(b []byte, at int) (int, api.Fault)

	// write tells the bytes of an entry that is to stand at a place of a message.
	write(p *wire.Packer, at, i int) ([]byte, api.Errno)
}

type (
	questions struct{ all *[]api.Question }
	records   struct{ all *[]api.Rec }
)

// lists tells a message's lists, in the order in which they stand in it.
func lists(m *api.Message) [4]list {
	return [4]list{questions{&m.Q}, records{&m.An}, records{&m.Ns}, records{&m.Ar}}
}

func (l questions) count() int { return len(*l.all) }

func (l questions) check(i int) api.Errno {
	q := (*l.all)[i]
	if e := name.Check(q.Name); e != api.OK {
		return e
	}
	if !bounded(q.Type) || !bounded(q.Class) {
		return api.ErrRange
	}
	return api.OK
}

func (l questions) read(b []byte, at int) (int, api.Fault) {
	q, end, f := rec.Question(b, at)
	*l.all = append(*l.all, q)
	return end, f
}

func (l questions) write(p *wire.Packer, at, i int) ([]byte, api.Errno) {
	return rec.Ask(p, at, (*l.all)[i])
}

func (l records) count() int { return len(*l.all) }

func (l records) check(i int) api.Errno { return rec.Check((*l.all)[i]) }

func (l records) read(b []byte, at int) (int, api.Fault) {
	x, end, f := rec.Read(b, at)
	*l.all = append(*l.all, x)
	return end, f
}

func (l records) write(p *wire.Packer, at, i int) ([]byte, api.Errno) {
	return rec.Write(p, at, (*l.all)[i])
}
