package http

import (
	"slices"
	"strconv"
	"strings"
	"testing"

	"ostiary/api"
	"ostiary/head"
	"ostiary/sample"
)

// state is what is to be known of a reader that was handed a stream's beginning.
type state struct {
	told []api.Item
	left int
	over bool
}

// headOf tells how many bytes the head has with which a stream begins, -1, if it has not ended, and 0, if it has too many.
func headOf(s string) int {
	for n := range 4097 {
		switch {
		case n > len(s):
			return -1
		case n >= 4 && s[n-4] == 13 && s[n-3] == 10 && s[n-2] == 13 && s[n-1] == 10:
			return n
		}
	}
	if len(s) == 4096 {
		return -1
	}
	return 0
}

// statusOf tells what is wrong with a head, or 200, and how long its body is.
func statusOf(h api.Head) (int, int) {
	for _, f := range h.Fields {
		if strings.ToLower(f.Name) == "expect" {
			return 417, 0
		}
	}
	size, status := head.Length(h)
	switch {
	case status != 200:
		return status, 0
	case size == -1 && h.Method == "POST":
		return 411, 0
	case size == -1:
		return 200, 0
	default:
		return 200, size
	}
}

// readAll tells what a reader knows, when this is what came: read as a whole, without pieces.
func readAll(s string) state {
	var x state
	for {
		n := headOf(s)
		if n < 0 {
			x.left = len(s)
			return x
		}
		if n == 0 {
			return state{told: append(x.told, alone(431)), over: true}
		}
		h, status := head.Parse([]byte(s[:n]))
		size := 0
		if status == 200 {
			status, size = statusOf(h)
		}
		if status != 200 {
			return state{told: append(x.told, alone(status)), over: true}
		}
		if len(s) < n+size {
			x.left = len(s)
			return x
		}
		item := api.Item{Status: 200, Head: h, Body: []byte(s[n : n+size]), Keep: head.Keep(h)}
		x.told, s = append(x.told, item), s[n+size:]
		if !item.Keep {
			x.over = true
			return x
		}
	}
}

// goes pushes pieces at a new reader, and holds behind each one that what is told and known is what the whole of them tells.
func goes(t *testing.T, pieces ...string) {
	t.Helper()
	r := New()
	whole, end := strings.Join(pieces, ""), 0
	var ahead state
	for i, piece := range pieces {
		end += len(piece)
		now := readAll(whole[:end])
		want, l := api.OK, now.told[len(ahead.told):]
		if ahead.over {
			want = api.ErrState
		}
		if got, e := r.Push([]byte(piece)); !slices.EqualFunc(got, l, alike) || e != want || e != api.OK && got != nil {
			t.Fatalf("piece %d of %.2000q: %s, %v, not %s, %v", i, pieces, text(got), e, text(l), want)
		}
		if r.Left() != now.left || r.Over() != now.over || r.Left() > 4096+65535 {
			t.Fatalf("behind piece %d of %.2000q it keeps %d, and is over: %v; not %d, %v", i, pieces, r.Left(), r.Over(), now.left, now.over)
		}
		ahead = now
	}
}

// one tells a text of these; now and then one of bytes of any kind.
func one(random *sample.Source, l ...string) string {
	if random.Below(80) == 0 {
		return random.Bytes(random.Below(4))
	}
	return l[random.Below(len(l))]
}

// some tells a stream of requests, of which now and then something is otherwise than it should be, and which may be cut at its end.
func some(random *sample.Source) string {
	s := ""
	for range random.Below(6) {
		s += one(random, "GET", "POST", "POST", "PUT", "post") + " " + one(random, "/", "/dns-query?dns=AAAA", "/"+strings.Repeat("t", random.Below(200))) + " "
		s += one(random, "HTTP/1.0\r\nConnection: keep-alive", "HTTP/1.0\r\nconnection:keep-alive", "HTTP/1.1\r\nHost: x", "HTTP/1.1\r\nHost: x", "HTTP/1.1\r\nhost:", "HTTP/1.0") + "\r\n"
		for range random.Below(3) {
			s += one(random, "a: b\r\n", "Accept:\t*/*\r\n", "a:\r\n", "n: "+strings.Repeat("v", random.Below(300))+"\r\n", "Connection: keep-alive\r\n")
		}
		body := one(random, "", "b", "\r\n\r\n", get, random.Bytes(random.Below(40)), strings.Repeat("b", random.Below(3000)))
		if body != "" || random.Below(2) == 0 {
			s += "Content-Length: " + strconv.Itoa(len(body)) + "\r\n"
		}
		if random.Below(30) == 0 {
			s += one(random, "Expect: x\r\n", "Transfer-Encoding: x\r\n", "Content-Length: 7\r\n", "Connection: close\r\n", "n: "+strings.Repeat("v", 3000+random.Below(1200))+"\r\n")
		}
		s += "\r\n" + body
	}
	return s[:len(s)-random.Below(min(len(s), 30)+1)]
}

// P14.3: short streams, cut in each way in which they can be.
func TestEachWayToCut(t *testing.T) {
	for _, s := range []string{"P / HTTP/1.0\r\n\r\nx", "\r\n\r\n" + "P / HTTP/1.0", "POST / HTTP/1\r\n\r\n", "P / HTTP/1.0\r\n\r\r\n", "P /\r\n\n\r\n\r\n\r\n\r\n"} {
		for ways := range 1 << (len(s) - 1) {
			goes(t, sample.CutAt(s, ways)...)
		}
	}
}

// P14.3: longer streams, cut into two and into three at each two places, with and without an empty piece between: within heads, within the lines' ends, just behind them, within bodies, between requests.
func TestEachTwoCuts(t *testing.T) {
	for _, s := range []string{
		get + post + "ab" + get,
		post + "\r\n" + post + "ab" + post + "a",
		get + asked("GET / HTTP/1.0") + get,
		post + "ab" + asked("POST / HTTP/1.0") + get,
		asked("PUT / HTTP/1.1", "Host:", "Content-Length: 8") + "\r\n\r\n\r\n\r\n" + "\r\n\r\n" + get,
		asked("GET / HTTP/1.0", "Expect:") + get,
	} {
		for from := range len(s) + 1 {
			for to := from; to <= len(s); to++ {
				goes(t, s[:from], s[from:to], s[to:])
			}
			goes(t, s[:from], "", s[from:], "")
		}
	}
}

// P14.3: long streams, in pieces of each length.
func TestEachPieceLength(t *testing.T) {
	s := ""
	for i := range 12 {
		h, _ := with(strings.Repeat("\r\n\r\nb", i*7)[:i*i])
		s += h + strings.Repeat("\r\n\r\nb", i*7)[:i*i] + get
	}
	for _, last := range []string{"", "GET /", asked("GET / HTTP/1.0") + get, asked("GET / HTTP/7.0") + get, post + "a"} {
		for size := 1; size < 400; size = size*13/12 + 1 {
			goes(t, sample.CutEach(s+last, size)...)
		}
		goes(t, s+last)
	}
}

// P14.3, and P14.1 and P14.2 by it: many streams of any kind, cut anyhow.
func TestManyStreams(t *testing.T) {
	random := sample.New()
	count := map[int]int{}
	for range 3000 {
		s := some(random)
		for _, x := range readAll(s).told {
			count[x.Status]++
		}
		goes(t, s)
		for _, longest := range []int{8, 60, 500, 5000} {
			goes(t, random.Cuts(s, longest)...)
		}
	}
	for status, least := range map[int]int{200: 3000, 400: 200, 411: 100, 417: 20, 431: 5, 501: 20} {
		if count[status] < least {
			t.Errorf("the status %d came %d times", status, count[status])
		}
	}
}

// P14.3: bytes that may be anything, and pieces of requests put together anyhow.
func TestAnyBytes(t *testing.T) {
	random := sample.New()
	l := []string{"GET", "POST", " ", "/", "HTTP/1.0", "HTTP/1.1", "\r\n", "\r\n", "\r", "\n", "\r\n\r\n", ":", "Host: x\r\n", "Content-Length: 3\r\n", "Connection: keep-alive\r\n", "Expect:", "a", get, post, "GET / HTTP/1.1\r\nHost: x\r\n", "\x00"}
	for range 12000 {
		s := ""
		for range random.Below(16) {
			s += l[random.Below(len(l))]
		}
		goes(t, random.Cuts(s, 1+random.Below(80))...)
		goes(t, random.Cuts(random.Bytes(random.Below(50))+s, 1+random.Below(80))...)
	}
}

// written tells a request behind which others may come, and its bytes: its head as head writes it, its body behind it.
func written(t *testing.T, random *sample.Source) (api.Item, string) {
	t.Helper()
	x := api.Item{Status: 200, Keep: true}
	x.Head = api.Head{Method: []string{"GET", "POST", "PUT", "get"}[random.Below(4)], Target: "/" + random.Of("!/?&=aZ~:", random.Below(60)), Minor: random.Below(2)}
	fields := []api.Field{}
	if x.Head.Minor == 1 {
		fields = append(fields, api.Field{Name: "hoSt", Value: random.Of("x.9", random.Below(9))})
	} else {
		fields = append(fields, api.Field{Name: "connection", Value: "a,Keep-Alive"})
	}
	if x.Head.Method == "POST" || random.Below(2) == 0 {
		size := []int{0, 1, 2, 4, random.Below(100), random.Below(5000), random.Below(65536)}[random.Below(7)]
		x.Body = []byte(random.Of("\r\n\x00\xffb", size))
		fields = append(fields, api.Field{Name: "Content-Length", Value: strconv.Itoa(size)})
	}
	for range random.Below(4) {
		fields = append(fields, api.Field{Name: "x-" + random.Of("an-", random.Below(20)), Value: random.Of("v:;\xff", random.Below(300))})
	}
	for len(fields) > 0 {
		i := random.Below(len(fields))
		x.Head.Fields, fields = append(x.Head.Fields, fields[i]), slices.Delete(fields, i, i+1)
	}
	b, e := head.Write(x.Head)
	if e != api.OK {
		t.Fatal(text([]api.Item{x}), e)
	}
	return x, string(b) + string(x.Body)
}

// P14.4 (P2): requests that are written one behind the other, each with its body, are read as they were, in whatever pieces they come.
func TestRequestsBack(t *testing.T) {
	random := sample.New()
	for range 25 {
		var l []api.Item
		s := ""
		for range random.Below(12) {
			x, b := written(t, random)
			l, s = append(l, x), s+b
		}
		pushes(t, New(), s, l...)
		for _, longest := range []int{1, 2, 13, 300, 5000, 70000, 200000} {
			r := New()
			var got []api.Item
			for _, piece := range random.Cuts(s, longest) {
				told, e := r.Push([]byte(piece))
				if e != api.OK || r.Left() > 4096+65535 {
					t.Fatal(longest, e, r.Left())
				}
				got = append(got, told...)
			}
			if !slices.EqualFunc(got, l, alike) {
				t.Fatalf("in pieces of up to %d bytes: %s, not %s", longest, text(got), text(l))
			}
			stands(t, r, 0, false)
		}
	}
}

// P14.1: one piece with very many requests.
func TestManyRequests(t *testing.T) {
	l := slices.Repeat([]api.Item{gets(), posts("ab")}, 30000)
	r := New()
	pushes(t, r, strings.Repeat(get+post+"ab", 30000)+"G", l...)
	stands(t, r, 1, false)
	ends(t, r, get[1:]+asked("GET / HTTP/1.1")+strings.Repeat(get, 1000), gets(), alone(400))
}

// P14.4 (P7): a reader never keeps more than 4,096 and 65,535 bytes, and has no room for much more, however long the pieces are that came; one that is over has none.
func TestKeepsNoMore(t *testing.T) {
	body := strings.Repeat("b", 65535)
	h, want := with(body)
	many := strings.Repeat(get, 100000)
	r := New()
	for _, piece := range []string{h + body[1:], "b" + h + body + h + body[1:], "b" + many + h + body[1:], "b" + many, h + body[1:]} {
		l, e := r.Push([]byte(piece))
		if e != api.OK || r.Left() > 4096+65535 || r.Left() > 0 && r.Left() != len(h)+65534 {
			t.Fatal(len(l), e, r.Left())
		}
		if cap(r.kept) > 2*(4096+65535) || r.Left() == 0 && cap(r.kept) > 64 {
			t.Fatalf("it keeps %d bytes, and has room for %d", r.Left(), cap(r.kept))
		}
	}
	pushes(t, r, "b", want)
	if cap(r.kept) > 64 || r.asks.head.Fields != nil || r.asks.to != 0 {
		t.Fatalf("it has room for %d bytes, and knows %v", cap(r.kept), r.asks)
	}
	for _, last := range []string{asked("GET / HTTP/1.0"), asked("GET / HTTP/4.0"), strings.Repeat("a", 4097), asked("POST / HTTP/1.1", "Host: x", "Connection: close", "Content-Length: 65535") + body} {
		r := New()
		if _, e := r.Push([]byte(last + many)); e != api.OK || !r.Over() || r.kept != nil || r.asks.head.Fields != nil || r.asks.to != 0 {
			t.Fatalf("a reader that is over keeps %d bytes, with room for %d, and knows %v", len(r.kept), cap(r.kept), r.asks)
		}
	}
}
