package head

import (
	"strings"

	"ostiary/api"
)

// Which bytes may stand in a word, in a target and in a value: the first and the last one of each row of them.
const (
	wordRows   = "!!#'*+-.09AZ^z||~~"
	targetRows = "!~"
	valueRows  = "\t\t ~\x80\xff"
)

// mostOfName is how many letters a field's name has at most.
const mostOfName = 64

// blanks may stand about a value, and are no part of it.
const blanks = "\t "

// places tells which bytes may stand where.
type places struct{ word, inTarget, inValue [256]bool }

// allPlaces makes all of them.
func allPlaces() *places {
	return &places{word: allOf(wordRows), inTarget: allOf(targetRows), inValue: allOf(valueRows)}
}

// allOf tells each byte that is in a row.
func allOf(rows string) [256]bool {
	var all [256]bool
	for i := 0; i < len(rows); i += 2 {
		for x := int(rows[i]); x <= int(rows[i+1]); x++ {
			all[x] = true
		}
	}
	return all
}

// method tells whether a method may be.
func (p *places) method(s string) bool { return isWord(s, &p.word, api.MaxMethod) }

// target tells whether a target may be.
func (p *places) target(s string) bool {
	return isWord(s, &p.inTarget, api.MaxTarget) && s[0] == '/'
}

// name tells whether a field's name may be.
func (p *places) name(s string) bool { return isWord(s, &p.word, mostOfName) }

// value tells whether a field's value may be.
func (p *places) value(s string) bool { return only(s, &p.inValue) && bare(s) == s }

// isWord tells whether a text has 1 to so many bytes, all of them of these.
func isWord(s string, all *[256]bool, most int) bool {
	return 1 <= len(s) && len(s) <= most && only(s, all)
}

// only tells whether each byte of a text is one of these.
func only(s string, all *[256]bool) bool {
	for i := range len(s) {
		if !all[s[i]] {
			return false
		}
	}
	return true
}

// bare tells a text without the blanks at its beginning and its end.
func bare(s string) string { return strings.Trim(s, blanks) }
