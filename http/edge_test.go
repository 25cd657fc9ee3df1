package http

import (
	"strconv"
	"strings"
	"testing"

	"ostiary/api"
)

// sized tells a head of so many bytes, its end among them, and what it is read as.
func sized(n int) (string, api.Item) {
	ahead := "GET / HTTP/1.0\r\nConnection: keep-alive\r\na: "
	v := strings.Repeat("v", n-len(ahead)-4)
	return ahead + v + "\r\n\r\n", api.Item{Status: 200, Head: head10("GET", "Connection", "keep-alive", "a", v), Keep: true}
}

// with tells the head of a POST with a body of so many bytes, and what both are read as.
func with(body string) (string, api.Item) {
	n := strconv.Itoa(len(body))
	return "POST / HTTP/1.0\r\nConnection: keep-alive\r\nContent-Length: " + n + "\r\n\r\n", api.Item{Status: 200, Head: head10("POST", "Connection", "keep-alive", "Content-Length", n), Body: []byte(body), Keep: true}
}

// P14.1: heads that end with each byte about the 4,096th: those that end behind it have not ended within it.
func TestHeadEndsAbout4096(t *testing.T) {
	for n := 4088; n <= 4104; n++ {
		s, want := sized(n)
		if len(s) != n {
			t.Fatal(len(s))
		}
		if n > 4096 {
			for _, ahead := range []string{"", get, post + "ab"} {
				l := map[string][]api.Item{"": nil, get: {gets()}, post + "ab": {posts("ab")}}[ahead]
				ends(t, New(), ahead+s, append(l, alone(431))...)
				ends(t, New(), ahead+s+get, append(l, alone(431))...)
				r := New()
				pushes(t, r, ahead+s[:4096], l...)
				stands(t, r, 4096, false)
				ends(t, r, s[4096:], alone(431))
			}
			ways(t, s[:4097], true, alone(431))
			continue
		}
		ways(t, s, false, want)
		ways(t, get+s, false, gets(), want)
		r := New()
		pushes(t, r, s[:n-1])
		stands(t, r, n-1, false)
		pushes(t, r, s[n-1:]+s+s[:n-1], want, want)
		stands(t, r, n-1, false)
		pushes(t, r, s[n-1:], want)
		stands(t, r, 0, false)
	}
}

// P14.1: a head that ends within 4,096 bytes has ended, however many bytes come behind it in its piece, be it one that may be or not.
func TestHeadEndsInTime(t *testing.T) {
	long := strings.Repeat("a", 5000)
	for _, n := range []int{100, 4095, 4096} {
		s, want := sized(n)
		ends(t, New(), s+long, want, alone(431))
		ends(t, New(), " "+s[1:]+long, alone(400))
		r := New()
		pushes(t, r, s+long[:4096], want)
		stands(t, r, 4096, false)
		ends(t, r, "a", alone(431))
	}
	ends(t, New(), strings.Repeat("a", 4092)+"\r\n\r\n", alone(400))
	ends(t, New(), strings.Repeat("a", 4093)+"\r\n\r\n", alone(431))
	ends(t, New(), strings.Repeat("a", 4092)+"\r\n\r\n"+long, alone(400))
	ends(t, New(), strings.Repeat("a", 4093)+"\r\n\r\n"+long, alone(431))
}

// P14.1: bytes without an end, of each kind that might be taken for one, up to 4,096 and more, in one piece and in several.
func TestNoEnd(t *testing.T) {
	for _, kind := range []string{"a", "\x00", "\xff", "\r", "\n", "\r\n ", "\n\r\r", "\r\n\r", "\r\r\n\n", "\n\n", " ", "\r\na: b"} {
		s := strings.Repeat(kind, 4200)
		for _, n := range []int{4095, 4096} {
			for _, size := range []int{1, 2, 1000, 4095, 4096} {
				r := New()
				for at := 0; at < n; at += size {
					pushes(t, r, s[at:min(at+size, n)])
				}
				stands(t, r, n, false)
				pushes(t, r, "")
				stands(t, r, n, false)
				if n == 4095 {
					pushes(t, r, s[n:n+1])
					stands(t, r, 4096, false)
				}
				ends(t, r, s[4096:4097], alone(431))
			}
		}
		for _, n := range []int{4097, 4098, 4200} {
			ends(t, New(), s[:n], alone(431))
		}
		ends(t, New(), get+post+"ab"+s, gets(), posts("ab"), alone(431))
	}
}

// P14.1: an end of which three bytes are within 4,096, and the last one is not, comes too late; behind it nothing helps.
func TestEndTooLate(t *testing.T) {
	for within := range 4 {
		s := strings.Repeat("a", 4096-within) + "\r\n\r\n"
		r := New()
		pushes(t, r, s[:4096])
		stands(t, r, 4096, false)
		ends(t, r, s[4096:]+get, alone(431))
		ends(t, New(), s, alone(431))
	}
	ends(t, New(), strings.Repeat("\r\n", 2048), alone(400))
	ends(t, New(), strings.Repeat("a", 4097)+"\r\n\r\n", alone(431))
}

// P14.1: two lines' ends at the stream's very beginning, and just behind a request, end a head that is none; one line's end does not.
func TestEmptyHead(t *testing.T) {
	for _, ahead := range []string{"", get, post + "ab"} {
		l := map[string][]api.Item{"": nil, get: {gets()}, post + "ab": {posts("ab")}}[ahead]
		r := New()
		pushes(t, r, ahead, l...)
		for i, piece := range []string{"\r", "\n", "\r"} {
			pushes(t, r, piece)
			stands(t, r, i+1, false)
		}
		ends(t, r, "\n"+get, alone(400))
		for _, s := range []string{"\r\n\r\n", "\r\n\r\n\r\n", "\r\n" + get, "\n" + get, "\r" + get, "\r\n\r\n" + get, "\n\r\n\r\n"} {
			ends(t, New(), ahead+s, append(l, alone(400))...)
		}
		for _, s := range []string{"\r\n", "\r\n\r", "\n\n", "\r\r\r\r", "\n\r\n\r", "\r\nGET / HTTP/1.0\r\n"} {
			r := New()
			pushes(t, r, ahead+s, l...)
			stands(t, r, len(s), false)
		}
	}
}

// P14.1: bodies of no bytes, of one, of many and of the most, and what comes behind them.
func TestBodies(t *testing.T) {
	for _, n := range []int{0, 1, 2, 3, 4, 255, 256, 4095, 4096, 4097, 32767, 32768, 65534, 65535} {
		for _, x := range []string{"b", "\r\n", "\x00", "GET / HTTP/1.0\r\n\r\n"} {
			body := strings.Repeat(x, n)[:n]
			h, want := with(body)
			r := New()
			pushes(t, r, h+body+h+body+get, want, want, gets())
			stands(t, r, 0, false)
			if n > 0 {
				pushes(t, r, h)
				stands(t, r, len(h), false)
				pushes(t, r, body[:n/2])
				stands(t, r, len(h)+n/2, false)
				pushes(t, r, body[n/2:n-1])
				stands(t, r, len(h)+n-1, false)
			} else {
				pushes(t, r, h[:len(h)-1])
				body = h[len(h)-1:]
			}
			pushes(t, r, body[len(body)-1:]+"more", want)
			stands(t, r, 4, false)
		}
	}
	for _, n := range []int{0, 1, 300} {
		h, want := with(strings.Repeat("\r", n))
		ways(t, h+strings.Repeat("\r", n), false, want)
	}
}

// P14.1: the greatest body byte by byte.
func TestBodyByteByByte(t *testing.T) {
	body := strings.Repeat("0123456789\r\n\r\n", 5000)[:65535]
	h, want := with(body)
	r := New()
	s := h + body
	for i := range len(s) - 1 {
		if l, e := r.Push([]byte{s[i]}); l != nil || e != api.OK || r.Left() != i+1 {
			t.Fatal(i, l, e, r.Left())
		}
	}
	pushes(t, r, s[len(s)-1:], want)
	stands(t, r, 0, false)
}

// P14.1: a body that is said to be longer than may be is refused as soon as its head has ended, and none of it is waited for.
func TestBodyTooLong(t *testing.T) {
	for _, n := range []string{"65536", "65537", "70000", "0000065536", "131072", "4294967296", "9999999999"} {
		for _, method := range []string{"GET", "POST"} {
			s := asked(method+" / HTTP/1.0", "Connection: keep-alive", "Content-Length: "+n)
			r := New()
			pushes(t, r, s[:len(s)-1])
			stands(t, r, len(s)-1, false)
			ends(t, r, s[len(s)-1:], alone(413))
			ways(t, get+s, true, gets(), alone(413))
		}
	}
}

// P14.1: a body that looks like a head's end, like requests, or like what may not be, is a body.
func TestBodyLooksLikeMore(t *testing.T) {
	for _, body := range []string{"\r\n\r\n", "\r\n\r\n\r\n\r\n", get, post + "ab", get + get + post, "POST / HTTP/1.0\r\n\r\n", strings.Repeat("a", 5000), strings.Repeat("\r\n\r\n", 3000), "GET / HTTP/9.9\r\n\r\n", "\r\n\r"} {
		h, want := with(body)
		pushes(t, New(), h+body+get, want, gets())
		pushes(t, New(), get+h+body+h+body+post+body[:1]+"!", gets(), want, want, posts(body[:1]+"!"))
		r := New()
		pushes(t, r, h+body[:len(body)-1])
		stands(t, r, len(h)+len(body)-1, false)
		pushes(t, r, body[len(body)-1:]+get, want, gets())
	}
}

// P14.1: a head and its body together may have more than 4,096 bytes; what counts for the next head begins behind the body.
func TestLongHeadLongBody(t *testing.T) {
	body := strings.Repeat("b", 65535)
	ahead := "POST / HTTP/1.0\r\nConnection: keep-alive\r\nContent-Length: 65535\r\na: "
	v := strings.Repeat("v", 4096-len(ahead)-4)
	h := ahead + v + "\r\n\r\n"
	want := api.Item{Status: 200, Head: head10("POST", "Connection", "keep-alive", "Content-Length", "65535", "a", v), Body: []byte(body), Keep: true}
	r := New()
	for range 3 {
		pushes(t, r, h+body[1:])
		stands(t, r, 4096+65534, false)
		pushes(t, r, "b"+h+body+h[:4095], want, want)
		stands(t, r, 4095, false)
		pushes(t, r, h[4095:]+body, want)
		stands(t, r, 0, false)
	}
	pushes(t, r, h+body+strings.Repeat("a", 4096), want)
	stands(t, r, 4096, false)
	ends(t, r, "\r\n\r\n", alone(431))
}
