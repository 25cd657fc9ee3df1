package head

import (
	"bytes"
	"slices"
	"strings"

	"ostiary/api"
)

// Parse tells the head of bytes, or a status alone.
func Parse(b []byte) (api.Head, int) {
	if len(b) > api.MaxHead {
		return api.Head{}, headTooLong
	}
	l := lines(b)
	if len(l) == 0 {
		return api.Head{}, bad
	}
	p := allPlaces()
	h, status := p.first(l[0])
	if status != fine {
		return api.Head{}, status
	}
	if h.Fields, status = p.fields(l[1:]); status != fine {
		return api.Head{}, status
	}
	if !hosted(h) {
		return api.Head{}, bad
	}
	return h, fine
}

// lines tells lines without their ends, and without the empty one that is the last; or none, if the bytes are not such ones.
func lines(b []byte) []string {
	var l []string
	for {
		line, rest, ended := bytes.Cut(b, []byte(lineEnd))
		empty, last := len(line) == 0, len(rest) == 0
		if !ended || empty && !last || bytes.ContainsAny(line, lineEnd) {
			return nil
		}
		if empty {
			return l
		}
		l, b = append(l, string(line)), rest
	}
}

// first reads the first line.
func (p *places) first(line string) (api.Head, int) {
	words := strings.Split(line, " ")
	if len(words) != 3 || slices.Contains(words, "") {
		return api.Head{}, bad
	}
	if !p.method(words[0]) {
		return api.Head{}, bad
	}
	minor, status := version(words[2])
	if status != fine {
		return api.Head{}, status
	}
	if len(words[1]) > api.MaxTarget {
		return api.Head{}, targetTooLong
	}
	if !p.target(words[1]) {
		return api.Head{}, bad
	}
	return api.Head{Method: words[0], Target: words[1], Minor: minor}, fine
}

// version reads the minor number of a version.
func version(word string) (int, int) {
	number, is := strings.CutPrefix(word, "HTTP/")
	if !is || len(number) != 3 || !digits(number[:1]) || number[1] != '.' || !digits(number[2:]) {
		return 0, bad
	}
	switch number {
	case "1.0":
		return 0, fine
	case "1.1":
		return 1, fine
	default:
		return 0, otherVersion
	}
}

// fields reads the lines of fields.
func (p *places) fields(l []string) ([]api.Field, int) {
	var all []api.Field
	for _, line := range l {
		if len(all) == api.MaxFields {
			return nil, headTooLong
		}
		name, rest, is := strings.Cut(line, ":")
		value := bare(rest)
		if !is || !p.name(name) || !p.value(value) {
			return nil, bad
		}
		all = append(all, api.Field{Name: name, Value: value})
	}
	return all, fine
}

// digits tells whether a text has nothing but digits.
func digits(s string) bool {
	all := allOf("09")
	return only(s, &all)
}
