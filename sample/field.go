package sample

import (
	"slices"
	"strings"

	"ostiary/api"
)

// InName tells whether a byte is one of a word's letters, of which the names of fields are made.
func InName(x int) bool {
	switch {
	case '0' <= x && x <= '9', 'A' <= x && x <= 'Z', 'a' <= x && x <= 'z':
		return true
	default:
		return slices.Contains([]int{33, 35, 36, 37, 38, 39, 42, 43, 45, 46, 94, 95, 96, 124, 126}, x)
	}
}

// InValue tells whether a byte may stand in the value of a field, wherever it does.
func InValue(x int) bool { return x == 9 || x >= 32 && x != 127 }

// All tells all bytes that are so.
func All(so func(x int) bool) string {
	var l []byte
	for x := range 256 {
		if so(x) {
			l = append(l, byte(x))
		}
	}
	return string(l)
}

// Of tells so many of these letters, as they come.
func (s *Source) Of(letters string, n int) string {
	b := make([]byte, n)
	for i := range b {
		b[i] = letters[s.Below(len(letters))]
	}
	return string(b)
}

// Field tells a field with a name of up to so many bytes, and a value of up to so many.
func (s *Source) Field(name, value int) api.Field {
	return api.Field{
		Name:  s.Of(All(InName), 1+s.Below(name)),
		Value: strings.Trim(s.Of(All(InValue), s.Below(value+1)), "\t "),
	}
}

// RoomyFields tells fields as they are, behind which there is room in which bad ones stand, and all that is there.
func RoomyFields(l []api.Field) ([]api.Field, []api.Field) {
	all := append(slices.Clone(l), api.Field{Name: "host", Value: "\x00"}, api.Field{Name: "content-length", Value: "x"}, api.Field{Name: "connection", Value: "close"}, api.Field{})
	return all[:len(l)], slices.Clone(all)
}
