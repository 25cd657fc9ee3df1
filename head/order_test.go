package head

import (
	"slices"
	"strings"
	"testing"
)

// wrong is a fault of a head: what of it is otherwise, in which order it is told, and with which status.
type wrong struct {
	part, text   string
	rank, status int
}

// wrongs tells faults of each kind there is.
func wrongs() []wrong {
	long := "/" + strings.Repeat("a", 2048)
	return []wrong{
		{"end", strings.Repeat(" ", 4097), 1, 431},
		{"end", "\r\n", 2, 400}, {"end", "x", 2, 400}, {"end", "\n", 2, 400}, {"begin", "\r\n", 2, 400}, {"begin", "\n", 2, 400}, {"begin", "\r", 2, 400},
		{"begin", " ", 3, 400}, {"begin", "x ", 3, 400}, {"between", "  ", 3, 400}, {"between", " x ", 3, 400}, {"behind", " ", 3, 400}, {"behind", " x", 3, 400},
		{"method", "G(T", 4, 400}, {"method", strings.Repeat("M", 17), 4, 400}, {"method", "G\xe4T", 4, 400},
		{"version", "http/1.1", 5, 400}, {"version", "HTTP/1.x", 5, 400}, {"version", "HTTP/11", 5, 400},
		{"version", "HTTP/2.0", 6, 505}, {"version", "HTTP/1.2", 6, 505},
		{"target", long, 7, 414}, {"target", "a" + long, 7, 414}, {"target", long + "\x7f", 7, 414},
		{"target", "a", 8, 400}, {"target", "/\x7f", 8, 400},
		{"one", "a\r\n", 9, 400}, {"one", ":a\r\n", 9, 400}, {"one", "a:\x00\r\n", 9, 400},
		{"two", "a\r\n", 10, 400}, {"two", strings.Repeat("a:\r\n", 33), 10, 431}, {"two", strings.Repeat("a:\r\n", 28) + "\xff:\r\na:\r\na:\r\n", 10, 400},
		{"host", "", 11, 400}, {"host", "host:\r\nHost:\r\n", 11, 400},
	}
}

// put tells a head with these faults.
func put(l ...wrong) string {
	parts := map[string]string{"begin": "", "method": "GET", "between": " ", "target": "/", "version": "HTTP/1.1", "behind": "", "host": "host: x\r\n", "one": "b: c\r\n", "two": "", "end": ""}
	for _, w := range l {
		parts[w.part] = w.text
	}
	return parts["begin"] + parts["method"] + parts["between"] + parts["target"] + " " + parts["version"] + parts["behind"] + "\r\n" + parts["one"] + parts["host"] + parts["two"] + "\r\n" + parts["end"]
}

// P13.2: of one fault its own status is told, of two and of three that of the one that the chapter names first.
func TestOrderOfFaults(t *testing.T) {
	if _, n := Parse([]byte(put())); n != 200 {
		t.Fatal(n)
	}
	all := wrongs()
	for _, a := range all {
		refuses(t, put(a), a.status)
		for _, b := range all {
			if a.part == b.part {
				continue
			}
			first := slices.MinFunc([]wrong{a, b}, func(x, y wrong) int { return x.rank - y.rank })
			if first.rank == 1 || len(put(a, b)) <= 4096 {
				refuses(t, put(a, b), first.status)
			}
			for _, c := range all {
				if c.part == a.part || c.part == b.part || len(put(a, b, c)) > 4096 && min(first.rank, c.rank) > 1 {
					continue
				}
				if c.rank < first.rank {
					refuses(t, put(a, b, c), c.status)
				} else {
					refuses(t, put(a, b, c), first.status)
				}
			}
		}
	}
}

// P13.2: the first line is told as a whole ahead of the fields, and these line by line.
func TestLineByLine(t *testing.T) {
	many := strings.Repeat("a:b\r\n", 33)
	for s, status := range map[string]int{
		"GET / HTTP/2.0\r\n" + many + "\r\n":                                  505,
		"GET t HTTP/1.0\r\n" + many + "\r\n":                                  400,
		"GET /" + strings.Repeat("t", 2048) + " HTTP/1.0\r\n" + many + "\r\n": 414,
		"GET /" + strings.Repeat("t", 2048) + " HTTP/2.0\r\n" + many + "\r\n": 505,
		"GET t" + strings.Repeat("t", 2048) + " HTTP/1.0\r\na\r\n\r\n":        414,
		"G(T /" + strings.Repeat("t", 2048) + " HTTP/2.0\r\na\r\n\r\n":        400,
		"GET / HTTP/1.0\r\n" + many + "\r\n":                                  431,
		"GET / HTTP/1.0\r\na\r\n" + many + "\r\n":                             400,
		"GET / HTTP/1.0\r\n" + many[:160] + "a\r\n\r\n":                       431,
		"GET / HTTP/1.0\r\n" + many[:155] + "a\r\n\r\n":                       400,
		"GET / HTTP/1.0\r\n" + many + "\r\n\r\n":                              400,
		"GET / HTTP/1.0\r\n" + many:                                           400,
		"GET / HTTP/1.0\r\n" + many + strings.Repeat("a:b\r\n", 800) + "\r\n": 431,
		"GET / HTTP/1.1\r\nhost: x\r\nhost: y\r\n" + many + "\r\n":            431,
		"GET / HTTP/1.1\r\nhost: x\r\nhost: y\r\na\r\n\r\n":                   400,
	} {
		refuses(t, s, status)
	}
}
