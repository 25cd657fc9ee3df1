package resp

import (
	"bytes"
	"slices"
	"strconv"
	"strings"

	"ostiary/api"
)

// What stands in a response's bytes, whatever it tells.
const (
	version   = "HTTP/1.1 "
	lineEnd   = "\r\n"
	colon     = ": "
	length    = "Content-Length" + colon
	closeLine = "Connection: close" + lineEnd
)

// mostOfHead is how many bytes a response surely does not have ahead of its body.
const mostOfHead = 2 * mostOfFields

// Write tells a response's bytes.
func Write(r api.Resp) ([]byte, api.Errno) {
	if e := Check(r); e != api.OK {
		return nil, e
	}
	var w strings.Builder
	w.WriteString(version)
	writeNumber(&w, r.Status)
	w.WriteString(" " + Reason(r.Status) + lineEnd)
	for _, f := range r.Fields {
		w.WriteString(f.Name + colon + f.Value + lineEnd)
	}
	w.WriteString(length)
	writeNumber(&w, len(r.Body))
	w.WriteString(lineEnd)
	if !r.Keep {
		w.WriteString(closeLine)
	}
	w.WriteString(lineEnd)
	w.Write(r.Body)
	return []byte(w.String()), api.OK
}

// writeNumber writes a number's digits.
func writeNumber(w *strings.Builder, n int) { w.Write(strconv.AppendInt(nil, int64(n), 10)) }

// Read tells the response that stands at a place of bytes, and the place behind it. It is the one that its lines look like, if that is written as just these bytes.
func Read(b []byte, at int) (api.Resp, int, api.Errno) {
	if at < 0 || at > len(b) {
		return api.Resp{}, 0, api.ErrRange
	}
	r := look(b[at:])
	written, e := Write(r)
	if e != api.OK || !bytes.HasPrefix(b[at:], written) {
		return api.Resp{}, 0, api.ErrBytes
	}
	return r, at + len(written), api.OK
}

// look tells the only response with whose bytes these may begin; where they begin with those of none, it may tell any.
func look(b []byte) api.Resp {
	to := bytes.Index(b[:min(len(b), mostOfHead)], []byte(lineEnd+lineEnd))
	if to < 0 {
		return api.Resp{}
	}
	lines := strings.Split(string(b[:to]), lineEnd)
	last := slices.IndexFunc(lines, tellsLength)
	if last < 1 {
		return api.Resp{}
	}
	r := api.Resp{Status: statusOf(lines[0]), Keep: last == len(lines)-1}
	for _, line := range lines[1:last] {
		name, value, _ := strings.Cut(line, colon)
		r.Fields = append(r.Fields, api.Field{Name: name, Value: value})
	}
	body := b[to+len(lineEnd+lineEnd):]
	r.Body = append([]byte(nil), body[:min(len(body), number(lines[last][len(length):]))]...)
	return r
}

// tellsLength tells whether a line is the one that tells how long the body is.
func tellsLength(line string) bool { return strings.HasPrefix(line, length) }

// statusOf tells the status that a first line tells.
func statusOf(line string) int {
	status, _, _ := strings.Cut(strings.TrimPrefix(line, version), " ")
	return number(status)
}

// number tells a number of digits that has at most 16 bits, as each status and each body's length has; any other text's is one of these too, of which Read finds that it is not written so.
func number(s string) int {
	n, _ := strconv.ParseUint(s, 10, 16)
	return int(n)
}
