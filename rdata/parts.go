package rdata

import (
	"strings"

	"ostiary/api"
	"ostiary/wire"
)

// piece is what one part of data is: a name, its bytes one by one, or other bytes.
type piece struct {
	text string
	name bool
}

// reader goes along the bytes of data, part by part, and gathers their pieces. It panics with a misfit where a part does not fit, so that no part has to hand one up.
type reader struct {
	b              []byte // the data, and what may stand about them
	start, at, end int    // where the data begin, where the next part does, where the data end
	find           func(b []byte, at int) (string, int, api.Fault)
	pieces         []piece
}

// part reads one part of data.
type part func(r *reader)

// misfit is what a reader panics with.
type misfit struct{ api.Fault }

// parts tells of what the data of each type of the table are made.
func parts() map[int][]part {
	return map[int][]part{
		api.TypeA:     {fixed(4)},
		api.TypeAAAA:  {fixed(16)},
		api.TypeNS:    {(*reader).name},
		api.TypeCNAME: {(*reader).name},
		api.TypePTR:   {(*reader).name},
		api.TypeMX:    {fixed(2), (*reader).name},
		api.TypeSOA:   {(*reader).name, (*reader).name, fixed(20)},
		api.TypeTXT:   {(*reader).texts},
	}
}

// read tells the pieces of the data of a type.
func read(r reader, t int) (l []piece, f api.Fault) {
	defer func() {
		if m, failed := recover().(misfit); failed {
			l, f = nil, m.Fault
		}
	}()
	all, known := parts()[t]
	if !known {
		all = []part{(*reader).rest}
	}
	for _, next := range all {
		next(&r)
	}
	if r.at < r.end {
		r.fail()
	}
	return r.pieces, api.Fault{}
}

// split tells the pieces of data in which each name stands as its bytes.
func split(t int, data string) ([]piece, api.Errno) {
	if !bounded(t) {
		return nil, api.ErrRange
	}
	if len(data) > most {
		return nil, api.ErrLong
	}
	l, f := read(reader{b: []byte(data), end: len(data), find: plain}, t)
	return l, f.Err
}

// join tells the data of pieces.
func join(l []piece) string {
	var data strings.Builder
	for _, x := range l {
		data.WriteString(x.text)
	}
	return data.String()
}

// plain reads a name that stands as its bytes: what is read by a pointer is not what stands there.
func plain(b []byte, at int) (string, int, api.Fault) {
	n, end, f := wire.Read(b, at)
	if f.Err != api.OK || n != string(b[at:end]) {
		return "", 0, api.Fault{Err: api.ErrBytes}
	}
	return n, end, api.Fault{}
}

// fixed tells the part of so many bytes.
func fixed(n int) part {
	return func(r *reader) { r.take(r.at + n) }
}

// name reads a name. One that would begin where the data end does not stand in them, whatever is there.
func (r *reader) name() {
	r.reach(r.at + 1)
	n, end, f := r.find(r.b, r.at)
	if f.Err != api.OK {
		panic(misfit{f})
	}
	r.reach(end)
	r.add(piece{n, true}, end)
}

// texts reads one text or more, up to where the data end.
func (r *reader) texts() {
	end := r.at
	for more := true; more; more = end < r.end {
		r.reach(end + 1)
		end += 1 + int(r.b[end])
	}
	r.take(end)
}

// rest reads all that is left.
func (r *reader) rest() { r.take(r.end) }

// take reads the bytes up to a place as they are.
func (r *reader) take(end int) {
	r.reach(end)
	r.add(piece{text: string(r.b[r.at:end])}, end)
}

// add keeps a piece that ends at a place, and goes on there.
func (r *reader) add(x piece, end int) {
	r.pieces = append(r.pieces, x)
	r.at = end
}

// reach fails, if a place is behind the end of the data.
func (r *reader) reach(end int) {
	if end > r.end {
		r.fail()
	}
}

// fail ends the reading, since the bytes are not the data of their type.
func (r *reader) fail() { panic(misfit{api.Fault{Err: api.ErrBytes, At: r.start}}) }
