package name

import (
	"iter"
	"strings"

	"ostiary/api"
)

// The bytes that mean something else than themselves in a text: one ends a label, the other changes what is behind it.
const (
	point  = '.'
	escape = '\\'
)

// place is where one stands in a text.
type place struct {
	text string
	at   int
}

// reader reads a text label by label. It panics with a fault where it can't go on, so that none of its methods has to hand one up.
type reader struct{ place }

// wrong is what a reader panics with.
type wrong struct{ api.Fault }

// Text tells a name's text.
func Text(n string) (string, api.Errno) {
	if e := Check(n); e != api.OK {
		return "", e
	}
	if n == root {
		return string(point), api.OK
	}
	var text strings.Builder
	for label := range labels(n) {
		for i := range len(label) {
			tell(&text, label[i])
		}
		text.WriteByte(point)
	}
	return text.String(), api.OK
}

// Parse tells the name of a text.
func Parse(text string) (n string, f api.Fault) {
	defer func() {
		if w, failed := recover().(wrong); failed {
			n, f = "", w.Fault
		}
	}()
	if text == "" {
		fail(api.ErrBytes, 0)
	}
	if text == string(point) {
		return root, api.Fault{}
	}
	r := reader{place{text: text}}
	n, e := join(r.labels())
	return n, api.Fault{Err: e}
}

// tell writes a label's byte as it stands in a text.
func tell(text *strings.Builder, c byte) {
	if !stands(c) {
		text.Write([]byte{escape, '0' + c/100, '0' + c/10%10, '0' + c%10})
		return
	}
	if c == point || c == escape {
		text.WriteByte(escape)
	}
	text.WriteByte(c)
}

// stands tells whether a byte may stand in a text.
func stands(c byte) bool { return 33 <= c && c <= 126 }

// fail ends the reading.
func fail(e api.Errno, at int) { panic(wrong{api.Fault{Err: e, At: at}}) }

// over tells whether the text ends here.
func (p *place) over() bool { return p.at == len(p.text) }

// digit tells whether a digit stands here.
func (p *place) digit() bool { return !p.over() && '0' <= p.text[p.at] && p.text[p.at] <= '9' }

// next goes by a byte, and tells it.
func (p *place) next() byte {
	c := p.text[p.at]
	p.at++
	return c
}

// passes goes by a point, if one stands here, and tells whether it did.
func (p *place) passes() bool {
	if p.over() || p.text[p.at] != point {
		return false
	}
	p.at++
	return true
}

// labels goes along the labels of what is left of the text.
func (r *reader) labels() iter.Seq[string] {
	return func(yield func(string) bool) {
		for !r.over() && yield(r.label()) {
		}
	}
}

// label reads a label, and the point behind it. That it is too long is told at its end, since what is wrong within it is ahead of that.
func (r *reader) label() string {
	start := r.at
	if r.passes() {
		fail(api.ErrBytes, start)
	}
	var l []byte
	for !r.over() && !r.passes() {
		l = append(l, r.letter())
	}
	if len(l) > api.MaxLabel {
		fail(api.ErrLong, start)
	}
	return string(l)
}

// letter reads one byte of a label, however it is written.
func (r *reader) letter() byte {
	start := r.at
	c := r.plain()
	if c != escape {
		return c
	}
	if r.over() {
		fail(api.ErrBytes, start)
	}
	if r.digit() {
		return r.number(start)
	}
	return r.plain()
}

// plain reads a byte that may stand in a text.
func (r *reader) plain() byte {
	c := r.next()
	if !stands(c) {
		fail(api.ErrBytes, r.at-1)
	}
	return c
}

// number reads the three digits behind the backslash at start.
func (r *reader) number(start int) byte {
	n := 0
	for range 3 {
		if !r.digit() {
			fail(api.ErrBytes, start)
		}
		n = n*10 + int(r.next()-'0')
	}
	if n > 255 {
		fail(api.ErrRange, start)
	}
	return byte(n)
}
