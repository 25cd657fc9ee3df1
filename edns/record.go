package edns

import (
	"iter"

	"ostiary/api"
	"ostiary/octet"
)

const (
	// root is the name of the record.
	root = "\x00"

	// longest is the greatest TTL there is.
	longest = 1<<31 - 1

	// Where in the TTL each part begins, from its lowest bit on.
	extAt     = 24
	versionAt = 16
	doAt      = 15

	// ahead is how many bytes stand ahead of an option's data.
	ahead = 2 + 2
)

// record tells the record of something that may be said.
func record(e api.Edns) api.Rec {
	x := api.Rec{Name: root, Type: api.TypeOPT, Class: e.Size, TTL: e.Ext<<extAt | e.Version<<versionAt}
	if e.Do {
		x.TTL |= 1 << doAt
	}
	var b []byte
	for _, o := range e.Options {
		b = append(b, two(o.Code)...)
		b = append(b, two(len(o.Data))...)
		b = append(b, o.Data...)
	}
	x.Data = string(b)
	return x
}

// read tells what a record of TypeOPT says.
func read(x api.Rec) (api.Edns, api.Errno) {
	if x.Name != root || !bounded(x.Class, most) || !bounded(x.TTL, longest) {
		return api.Edns{}, api.ErrBytes
	}
	e := api.Edns{Size: x.Class, Ext: x.TTL >> extAt, Version: x.TTL >> versionAt & mostVersion, Do: x.TTL>>doAt&1 == 1}
	for o, f := range options([]byte(x.Data)) {
		if f.Err != api.OK {
			return api.Edns{}, f.Err
		}
		e.Options = append(e.Options, o)
	}
	return e, api.OK
}

// options goes along the options that stand in bytes, one behind the other; where none stands, a fault comes beside it, and nothing more.
func options(b []byte) iter.Seq2[api.Option, api.Fault] {
	return func(yield func(api.Option, api.Fault) bool) {
		for at := 0; at < len(b); {
			o, end, f := option(b, at)
			if !yield(o, f) || f.Err != api.OK {
				return
			}
			at = end
		}
	}
}

// option tells the option that stands at a place, and where it ends.
func option(b []byte, at int) (api.Option, int, api.Fault) {
	code, at, f := octet.Get16(b, at)
	if f.Err != api.OK {
		return api.Option{}, 0, f
	}
	size, at, f := octet.Get16(b, at)
	if f.Err != api.OK {
		return api.Option{}, 0, f
	}
	data, end, f := octet.Bytes(b, at, size)
	if f.Err != api.OK {
		return api.Option{}, 0, f
	}
	return api.Option{Code: code, Data: string(data)}, end, api.Fault{}
}

// two tells two bytes of a number that fits into them.
func two(n int) []byte {
	b, _ := octet.Put16(n)
	return b
}
