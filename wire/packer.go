package wire

import (
	"strings"

	"ostiary/api"
	"ostiary/name"
	"ostiary/octet"
)

// Packer knows which names stand where in a message. New makes it.
type Packer struct {
	self  *Packer        // tells a copy, which New did not make, from what it was made of
	tails map[string]int // the place of each tail that is known
	end   int            // where the last name that was told ended
}

// New makes a packer that knows nothing.
func New() *Packer {
	p := &Packer{tails: map[string]int{}}
	p.self = p
	return p
}

// Name tells the bytes of a name that is to stand at a place.
func (p *Packer) Name(at int, n string) ([]byte, api.Errno) {
	if !p.made() {
		return nil, api.ErrNil
	}
	if e := name.Check(n); e != api.OK {
		return nil, e
	}
	if at < 0 || at > api.MaxMessage {
		return nil, api.ErrArg
	}
	if at < p.end {
		return nil, api.ErrState
	}
	ahead := p.ahead(n)
	b := append([]byte(n[:ahead]), p.rest(n[ahead:])...)
	p.learn(at, n, ahead)
	p.end = at + len(b)
	return b, api.OK
}

// Known tells how many tails a packer knows.
func (p *Packer) Known() int {
	if !p.made() {
		return 0
	}
	return len(p.tails)
}

// made tells whether New made this packer.
func (p *Packer) made() bool { return p != nil && p.self == p }

// ahead tells how many bytes of a name are ahead of its first tail that is known, or of its byte 0.
func (p *Packer) ahead(n string) int {
	at := 0
	for n[at] != 0 {
		if _, known := p.tails[n[at:]]; known {
			break
		}
		at += 1 + int(n[at])
	}
	return at
}

// rest tells the bytes of a tail that is known, or of the root, which never is.
func (p *Packer) rest(tail string) []byte {
	place, known := p.tails[tail]
	if !known {
		return []byte(tail)
	}
	// The place is below reach, so that both fit into two bytes.
	b, _ := octet.Put16(pointer + place)
	return b
}

// learn keeps those of a name's tails that begin ahead of a byte of it, as far as pointers can lead to them.
func (p *Packer) learn(at int, n string, ahead int) {
	// All keys are slices of one copy, since what was handed in may not be kept.
	own := strings.Clone(n)
	for i := 0; i < ahead && at+i < reach; i += 1 + int(own[i]) {
		p.tails[own[i:]] = at + i
	}
}
