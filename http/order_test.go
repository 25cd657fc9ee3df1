package http

import (
	"slices"
	"strings"
	"testing"

	"ostiary/api"
)

// wrong is a fault of a request: what of it is otherwise, in which order it is told, and with which status.
type wrong struct {
	part, text   string
	rank, status int
}

// wrongs tells faults of each kind there is; those of one rank are never looked for together.
func wrongs() []wrong {
	return []wrong{
		{"begin", " ", 1, 400}, {"begin", "\r\n", 1, 400}, {"begin", "(", 1, 400}, {"version", "http/1.1", 1, 400}, {"version", "HTTP/2.0", 1, 505},
		{"target", "/" + strings.Repeat("t", 2048), 1, 414}, {"target", "t", 1, 400}, {"host", "", 1, 400}, {"host", "Host: x\r\nhost: x\r\n", 1, 400},
		{"more", strings.Repeat("a:b\r\n", 40), 1, 431}, {"more", "a\r\n", 1, 400}, {"more", "a: \x00\r\n", 1, 400},
		{"expect", "Expect: 100-continue\r\n", 2, 417}, {"expect", "expect:\r\n", 2, 417},
		{"coding", "Transfer-Encoding: chunked\r\n", 3, 501}, {"coding", "transfer-encoding:\r\n", 3, 501},
		{"length", "Content-Length: x\r\n", 4, 400}, {"length", "Content-Length: 2\r\nContent-Length: 3\r\n", 4, 400}, {"length", "content-length:\r\n", 4, 400},
		{"length", "Content-Length: 65536\r\n", 4, 413}, {"length", "Content-Length: 65536\r\nContent-Length: 065536\r\n", 4, 400},
		{"length", "", 5, 411},
	}
}

// put tells the head of a POST with these faults.
func put(l ...wrong) string {
	parts := map[string]string{"begin": "", "target": "/", "version": "HTTP/1.1", "host": "Host: x\r\n", "expect": "", "coding": "", "length": "Content-Length: 2\r\n", "more": ""}
	for _, w := range l {
		parts[w.part] = w.text
	}
	return parts["begin"] + "POST " + parts["target"] + " " + parts["version"] + "\r\n" + parts["length"] + parts["coding"] + parts["host"] + parts["expect"] + parts["more"] + "\r\n"
}

// apart tells whether faults can be in one request together, and which is told first.
func apart(l ...wrong) (wrong, bool) {
	slices.SortFunc(l, func(a, b wrong) int { return a.rank - b.rank })
	for i, w := range l[1:] {
		if w.rank == l[i].rank || slices.ContainsFunc(l[:i+1], func(x wrong) bool { return x.part == w.part }) {
			return wrong{}, false
		}
	}
	return l[0], true
}

// P14.1: of one fault its own status is told, of two, of three and of four that of the one that the chapter names first; and nothing behind it.
func TestOrderOfFaults(t *testing.T) {
	want := api.Item{Status: 200, Head: api.Head{Method: "POST", Target: "/", Minor: 1, Fields: []api.Field{{Name: "Content-Length", Value: "2"}, {Name: "Host", Value: "x"}}}, Body: []byte("ab"), Keep: true}
	ways(t, put()+"ab", false, want)
	all := wrongs()
	count := 0
	holds := func(l ...wrong) {
		first, may := apart(slices.Clone(l)...)
		if !may {
			return
		}
		count++
		s := put(l...)
		pushes(t, New(), s, alone(first.status))
		ends(t, New(), get+s+"ab"+get, gets(), alone(first.status))
	}
	for i, a := range all {
		holds(a)
		ways(t, put(a), true, alone(a.status))
		for j, b := range all[:i] {
			holds(a, b)
			for k, c := range all[:j] {
				holds(a, b, c)
				for _, d := range all[:k] {
					holds(a, b, c, d)
				}
			}
		}
	}
	if count != 13*3*3*7-1 {
		t.Errorf("%d requests with faults", count)
	}
}

// P14.1: a field expect, however its name is written, with any value or none, wherever it stands; and names that are others.
func TestExpect(t *testing.T) {
	for _, name := range []string{"expect", "Expect", "EXPECT", "eXpEcT"} {
		for _, value := range []string{":", ": ", ": 100-continue", ":x", ": \t200-ok\t", ": \xff"} {
			for _, method := range []string{"GET", "POST", "PUT"} {
				for _, l := range [][]string{{name + value}, {name + value, "a: b"}, {"Connection: keep-alive", name + value}, {"Content-Length: 2", name + value}, {name + value, name + value}} {
					s := asked(method+" / HTTP/1.0", l...)
					r := New()
					pushes(t, r, s[:len(s)-1])
					stands(t, r, len(s)-1, false)
					ends(t, r, s[len(s)-1:]+"ab", alone(417))
				}
			}
		}
	}
	for _, name := range []string{"expec", "expects", "xexpect", "expect-", "-expect", "except", "e", "ex-pect"} {
		ways(t, asked("GET / HTTP/1.0", name+": 100-continue", "Connection: keep-alive"), false, api.Item{Status: 200, Head: head10("GET", name, "100-continue", "Connection", "keep-alive"), Keep: true})
	}
	ways(t, asked("GET /expect HTTP/1.0", "a: expect", "Connection: keep-alive"), false, api.Item{Status: 200, Head: api.Head{Method: "GET", Target: "/expect", Fields: []api.Field{{Name: "a", Value: "expect"}, {Name: "Connection", Value: "keep-alive"}}}, Keep: true})
}

// P14.1: a POST tells a length, 0 too; what is not byte by byte POST need not.
func TestPost(t *testing.T) {
	keep := "Connection: keep-alive"
	for s, status := range map[string]int{
		asked("POST / HTTP/1.0"): 411, asked("POST / HTTP/1.0", keep): 411, asked("POST / HTTP/1.1", "Host: x"): 411, asked("POST / HTTP/1.0", "Content-Lengths: 2"): 411, asked("POST / HTTP/1.0", "a: content-length"): 411,
		asked("POST / HTTP/1.0", "Transfer-Encoding: chunked"): 501, asked("POST / HTTP/1.0", "Transfer-Encoding: chunked", "Content-Length: 2"): 501, asked("POST / HTTP/1.0", "Content-Length: 2", "transfer-encoding:"): 501,
		asked("POST / HTTP/1.0", "Content-Length:"): 400, asked("POST / HTTP/1.0", "Content-Length: -1"): 400, asked("POST / HTTP/1.0", "Content-Length: 00000000002"): 400, asked("GET / HTTP/1.0", "Content-Length: +2"): 400,
		asked("GET / HTTP/1.0", "Transfer-Encoding: chunked"): 501, asked("PUT / HTTP/1.0", "Transfer-Encoding: identity"): 501,
	} {
		ways(t, s, true, alone(status))
		ways(t, post+"ab"+s, true, posts("ab"), alone(status))
		ends(t, New(), s+"ab"+get, alone(status))
	}
	ways(t, asked("POST / HTTP/1.0", keep, "Content-Length: 0"), false, api.Item{Status: 200, Head: head10("POST", "Connection", "keep-alive", "Content-Length", "0"), Keep: true})
	ways(t, asked("POST / HTTP/1.0", keep, "Content-Length: 00"), false, api.Item{Status: 200, Head: head10("POST", "Connection", "keep-alive", "Content-Length", "00"), Keep: true})
	for _, method := range []string{"post", "Post", "POSt", "pOST", "POSTS", "POS", "XPOST", "PUT", "GET", "HEAD", "DELETE", "OPTIONS", "CONNECT", "P", "~"} {
		ways(t, asked(method+" / HTTP/1.0", keep), false, api.Item{Status: 200, Head: head10(method, "Connection", "keep-alive"), Keep: true})
		ways(t, asked(method+" / HTTP/1.0", keep, "content-length: 3")+"abc", false, api.Item{Status: 200, Head: head10(method, "Connection", "keep-alive", "content-length", "3"), Body: []byte("abc"), Keep: true})
		ways(t, asked(method+" / HTTP/1.0", keep, "content-length: 0"), false, api.Item{Status: 200, Head: head10(method, "Connection", "keep-alive", "content-length", "0"), Keep: true})
	}
}

// P14.1, P14.2: an item behind which nothing is read, in the midst of a piece: those ahead of it are told, it is told, and nothing behind it.
func TestOverInTheMidst(t *testing.T) {
	close10, close11 := asked("GET / HTTP/1.0", "a: b"), asked("PUT / HTTP/1.1", "Host: x", "Connection: close", "Content-Length: 3")+"\r\n\r"
	lasts := map[string]api.Item{
		close10: {Status: 200, Head: head10("GET", "a", "b")},
		close11: {Status: 200, Head: api.Head{Method: "PUT", Target: "/", Minor: 1, Fields: []api.Field{{Name: "Host", Value: "x"}, {Name: "Connection", Value: "close"}, {Name: "Content-Length", Value: "3"}}}, Body: []byte("\r\n\r")},
	}
	for _, w := range wrongs() {
		lasts[put(w)] = alone(w.status)
	}
	for last, want := range lasts {
		for count := range 4 {
			var l []api.Item
			s := ""
			for i := range count {
				if i%2 == 0 {
					s, l = s+post+"xy", append(l, posts("xy"))
				} else {
					s, l = s+get, append(l, gets())
				}
			}
			whole := len(l)
			l = append(l, want)
			for _, behind := range []string{"", "G", get, post + "ab" + get, "\r\n\r\n", last, strings.Repeat("a", 5000), close10} {
				ends(t, New(), s+last+behind, l...)
				r := New()
				pushes(t, r, s, l[:whole]...)
				stands(t, r, 0, false)
				ends(t, r, last+behind, want)
				r = New()
				pushes(t, r, s+last[:len(last)-1], l[:whole]...)
				stands(t, r, len(last)-1, false)
				ends(t, r, last[len(last)-1:]+behind, want)
			}
		}
	}
}

// P14.2: a reader that is over ends no other one, and a new one reads on.
func TestOverAlone(t *testing.T) {
	a, b, c := New(), New(), New()
	pushes(t, b, get[:9])
	pushes(t, c, post+"a")
	ends(t, a, asked("GET / HTTP/3.0"), alone(505))
	stands(t, b, 9, false)
	stands(t, c, len(post)+1, false)
	pushes(t, b, get[9:], gets())
	pushes(t, c, "b", posts("ab"))
	isOver(t, a)
	pushes(t, New(), get, gets())
}
