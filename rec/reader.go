package rec

import (
	"ostiary/api"
	"ostiary/octet"
	"ostiary/rdata"
	"ostiary/wire"
)

// reader goes along a message, part by part, and keeps the first fault: behind it nothing is read any more, so that only the end of a chain has to ask for it.
type reader struct {
	b  []byte
	at int // where the next part begins
	f  api.Fault
}

// name reads a name.
func (r *reader) name(n *string) *reader { return next(r, n, wire.Read) }

// two reads a number of two bytes.
func (r *reader) two(n *int) *reader { return next(r, n, octet.Get16) }

// four reads a number of four bytes.
func (r *reader) four(n *int) *reader { return next(r, n, octet.Get32) }

// data reads so many bytes of data of a type.
func (r *reader) data(data *string, size, t int) *reader {
	return next(r, data, func(b []byte, at int) (string, int, api.Fault) {
		d, f := rdata.Read(b, at, size, t)
		return d, at + size, f
	})
}

// next reads the next part, if none failed.
func next[T any](r *reader, to *T, read func(b []byte, at int) (T, int, api.Fault)) *reader {
	if r.f.Err == api.OK {
		*to, r.at, r.f = read(r.b, r.at)
	}
	return r
}
