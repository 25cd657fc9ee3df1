package head

import (
	"strconv"
	"strings"

	"ostiary/api"
)

// mostOfDigits is how many digits a length has at most.
const mostOfDigits = 10

// Field tells the first value of a name, and how many there are.
func Field(h api.Head, name string) (string, int) {
	l := values(h, name)
	if len(l) == 0 {
		return "", 0
	}
	return strings.Clone(l[0]), len(l)
}

// Length tells how long the body is, or a status alone.
func Length(h api.Head) (int, int) {
	if len(values(h, "transfer-encoding")) > 0 {
		return 0, notKnown
	}
	l := values(h, "content-length")
	if len(l) == 0 {
		return -1, fine
	}
	for _, v := range l {
		if v == "" || len(v) > mostOfDigits || !digits(v) || v != l[0] {
			return 0, bad
		}
	}
	// So many digits are a number of 64 bits.
	n, _ := strconv.ParseInt(l[0], 10, 64)
	if n > api.MaxBody {
		return 0, bodyTooLong
	}
	return int(n), fine
}

// Keep tells whether the connection goes on behind the request.
func Keep(h api.Head) bool {
	keep := h.Minor == 1
	for _, v := range values(h, "connection") {
		for word := range strings.SplitSeq(v, ",") {
			switch word = bare(word); {
			case same(word, "close"):
				return false
			case same(word, "keep-alive"):
				keep = true
			}
		}
	}
	return keep
}

// values tells the values of all fields of a name.
func values(h api.Head, name string) []string {
	var l []string
	for _, f := range h.Fields {
		if same(f.Name, name) {
			l = append(l, f.Value)
		}
	}
	return l
}

// same tells whether two names are the same.
func same(a, b string) bool {
	if len(a) != len(b) {
		return false
	}
	for i := range len(a) {
		if small(a[i]) != small(b[i]) {
			return false
		}
	}
	return true
}

// small tells a letter as a small one, and any other byte as it is: what is beyond A to Z has no small letters here, whatever texts it may be part of.
func small(x byte) byte {
	if 'A' <= x && x <= 'Z' {
		return x + 'a' - 'A'
	}
	return x
}
