// Package sample tells names, data, records, messages, fields, numbers and pieces of streams of which tests are made; nothing else asks for it.
package sample

import (
	"strings"

	"ostiary/api"
)

// Source tells numbers that look like chance, but are the same ones in each run. New makes it.
type Source uint64

// New makes a source that begins from the front.
func New() *Source {
	s := Source(88172645463325252)
	return &s
}

// Below tells a number from 0 to below n.
func (s *Source) Below(n int) int {
	*s ^= *s << 13
	*s ^= *s >> 7
	*s ^= *s << 17
	return int(uint64(*s) >> 11 % uint64(n))
}

// Bytes tells so many bytes of any kind.
func (s *Source) Bytes(n int) string {
	b := make([]byte, n)
	for i := range b {
		b[i] = byte(s.Below(256))
	}
	return string(b)
}

// Name tells a name of a few labels that come often, now and then a long one.
func (s *Source) Name() string {
	if s.Below(20) == 0 {
		return Sized(255 - 2*s.Below(120))
	}
	often := []string{"a", "b", "A", "www", "Example", "\x00", "a\x01b", "\xc0\x0c", s.Bytes(1)}
	var l []string
	for range s.Below(5) {
		l = append(l, often[s.Below(len(often))])
	}
	return Named(l...)
}

// Data tells a type, which mostly is one that has data of its own kind, and data of it.
func (s *Source) Data() (int, string) {
	types := []int{1, 2, 5, 6, 12, 15, 16, 28, 0, 999, 65535}
	switch kind := types[s.Below(len(types))]; kind {
	case 1:
		return kind, s.Bytes(4)
	case 28:
		return kind, s.Bytes(16)
	case 2, 5, 12:
		return kind, s.Name()
	case 15:
		return kind, s.Bytes(2) + s.Name()
	case 6:
		return kind, s.Name() + s.Name() + s.Bytes(20)
	case 16:
		return kind, s.texts()
	default:
		return kind, s.Bytes(s.Below(60))
	}
}

// Question tells a question.
func (s *Source) Question() api.Question {
	return api.Question{Name: s.Name(), Type: s.Below(1 << 16), Class: s.Below(1 << 16)}
}

// Rec tells a record.
func (s *Source) Rec() api.Rec {
	t, data := s.Data()
	return api.Rec{Name: s.Name(), Type: t, Class: s.Below(1 << 16), TTL: s.Below(1 << 31), Data: data}
}

// texts tells one text or a few, each behind its length.
func (s *Source) texts() string {
	data := "\x00"
	for range s.Below(4) {
		n := s.Below(256)
		data += string([]byte{byte(n)}) + s.Bytes(n)
	}
	return data
}

// Named puts labels together, whatever they are.
func Named(labels ...string) string {
	n := ""
	for _, l := range labels {
		n += string([]byte{byte(len(l))}) + l
	}
	return n + "\x00"
}

// Sized tells a name of so many bytes, at least 1, of the letter X; there is none of 2.
func Sized(size int) string {
	var l []string
	for left := size - 1; left > 0; {
		take := min(left, 64)
		if left-take == 1 {
			take--
		}
		l = append(l, strings.Repeat("X", take-1))
		left -= take
	}
	return Named(l...)
}

// Filler tells so many bytes that are no name.
func Filler(n int) string { return strings.Repeat("\xff", n) }

// Words tells all texts of these letters up to so many.
func Words(letters string, most int) []string {
	l := []string{""}
	for from := 0; most > 0; most-- {
		to := len(l)
		for _, w := range l[from:to] {
			for i := range len(letters) {
				l = append(l, w+letters[i:i+1])
			}
		}
		from = to
	}
	return l
}

// Word tells a number as so many bytes, the highest first.
func Word(n, size int) string {
	b := ""
	for ; size > 0; size-- {
		b = string([]byte{byte(n)}) + b
		n /= 256
	}
	return b
}

// Heading tells the bytes that stand in a message between a record's name and its data.
func Heading(t, class, ttl, size int) string {
	return Word(t, 2) + Word(class, 2) + Word(ttl, 4) + Word(size, 2)
}

// Plain tells a record's bytes, when no name is short.
func Plain(x api.Rec) string { return x.Name + Heading(x.Type, x.Class, x.TTL, len(x.Data)) + x.Data }

// Rooms tells the same bytes with and without spare room, in which others stand with which they could go on.
func Rooms(b string) [][]byte {
	var l [][]byte
	for _, room := range []int{0, 1, 24, 300} {
		l = append(l, append([]byte(b), strings.Repeat("\x01a\x00", room)[:room]...)[:len(b)])
	}
	return l
}
