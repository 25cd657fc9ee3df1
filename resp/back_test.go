package resp

import (
	"regexp"
	"strconv"
	"strings"
	"testing"

	"ostiary/api"
	"ostiary/sample"
)

// What a response is made of, said otherwise than by the package.
var (
	isTop   = regexp.MustCompile(`^HTTP/1\.1 ([1-9][0-9]*) ([A-Za-z ]+)\r\n((?:[^\r\n]+\r\n)*?)Content-Length: (0|[1-9][0-9]{0,4})\r\n(Connection: close\r\n)?\r\n`)
	isField = regexp.MustCompile("^([0-9A-Za-z!#$%&'*+\\-.^_`|~]{1,64}): ((?:[^\x00-\x20\x7f](?:[^\x00-\x08\x0a-\x1f\x7f]*[^\x00-\x20\x7f])?)?)$")
	isOwn   = regexp.MustCompile(`(?i)^(content-length|connection|transfer-encoding)$`)
)

// read tells the response with whose bytes a text begins, and how many they are, by a second reading.
func read(s string) (api.Resp, int, bool) {
	top := isTop.FindStringSubmatch(s[:min(len(s), 9000)])
	if top == nil {
		return api.Resp{}, 0, false
	}
	r := api.Resp{Keep: top[5] == ""}
	r.Status, _ = strconv.Atoi(top[1])
	size, _ := strconv.Atoi(top[4])
	body := s[len(top[0]):]
	if told[r.Status] != top[2] || size > 65535 || size > len(body) {
		return api.Resp{}, 0, false
	}
	lines, together := strings.SplitAfter(top[3], "\r\n"), 0
	for _, line := range lines[:len(lines)-1] {
		f := isField.FindStringSubmatch(strings.TrimSuffix(line, "\r\n"))
		if f == nil || isOwn.MatchString(f[1]) {
			return api.Resp{}, 0, false
		}
		r.Fields = append(r.Fields, api.Field{Name: f[1], Value: f[2]})
		together += len(f[1] + f[2])
	}
	if len(r.Fields) > 16 || together > 4096 {
		return api.Resp{}, 0, false
	}
	r.Body = []byte(body[:size])
	return r, len(top[0]) + size, true
}

// back holds that at a place of bytes is read what a second reading reads there, and that this is written as the bytes that it was read from. It tells whether there is a response.
func back(t *testing.T, s string, at int) bool {
	t.Helper()
	at = min(at, len(s))
	r, size, is := read(s[at:])
	if !is {
		refuses(t, s, at, api.ErrBytes)
		return false
	}
	reads(t, s, at, r, at+size)
	got, _, _ := Read([]byte(s), at)
	if b, e := Write(got); e != api.OK || string(b) != s[at:at+size] {
		t.Fatalf("%.300q is written as %.300q, %v", s[at:at+size], b, e)
	}
	return true
}

// some tells a response that may be.
func some(random *sample.Source) api.Resp {
	statuses := []int{200, 200, 400, 404, 405, 411, 413, 414, 415, 417, 429, 431, 501, 503, 505}
	r := api.Resp{Status: statuses[random.Below(len(statuses))], Keep: random.Below(2) == 0}
	longest := []int{5, 64}[random.Below(2)]
	for range random.Below(5) + random.Below(2)*random.Below(13) {
		f := random.Field(longest, []int{0, 10, 150}[random.Below(3)])
		if isOwn.MatchString(f.Name) {
			f.Name = "other"
		}
		r.Fields = append(r.Fields, f)
	}
	size := []int{0, 1, 10, 100, random.Below(400), random.Below(20000)}[random.Below(6)]
	r.Body = []byte(random.Of("\r\n: \x00\xffHTP/1.20OK", size))
	if random.Below(200) == 0 {
		r.Body = []byte(random.Bytes(65535 - random.Below(2)))
	}
	return r
}

// P15.4 (P2): responses that are written, one behind the other, are read as they were, each from the place behind the one ahead of it.
func TestResponsesBack(t *testing.T) {
	random := sample.New()
	for range 400 {
		var l []api.Resp
		var all []byte
		for range random.Below(12) {
			r := some(random)
			may(t, r)
			b, _ := Write(r)
			l, all = append(l, r), append(all, b...)
		}
		at := 0
		for _, want := range l {
			r, to, e := Read(all, at)
			if e != api.OK || !alike(r, want) || to <= at {
				t.Fatalf("at %d: %.300q, %d, %v, not %.300q", at, text(r), to, e, text(want))
			}
			if b, _ := Write(r); string(b) != string(all[at:to]) {
				t.Fatalf("at %d: %.300q is written as %.300q", at, all[at:to], b)
			}
			at = to
		}
		if at != len(all) {
			t.Fatal(at, len(all))
		}
		refuses(t, string(all), at, api.ErrBytes)
	}
}

// P15.2 and P15.4: many responses, as they should be and with a byte that is otherwise, missing or too much: what is read is written as the bytes that it was read from.
func TestManyResponses(t *testing.T) {
	random := sample.New()
	odd := "\r\n\t :/HTP1.0aC\x00\x7f\x80\xff("
	right, wrong := 0, 0
	for range 8000 {
		r := some(random)
		r.Body = r.Body[:min(len(r.Body), 300)]
		s := text(r)
		if !back(t, s, 0) {
			t.Fatalf("%.300q", s)
		}
		top := len(s) - len(r.Body)
		at, to := random.Below(top), random.Below(len(odd))
		for _, x := range []string{s[:at] + odd[to:to+1] + s[at+1:], s[:at] + odd[to:to+1] + s[at:], s[:at] + s[at+1:], s[:at] + s[at+1:] + "x", s[:at] + s[at:at+1] + s[at:], s[:at] + s[random.Below(len(s)):]} {
			if back(t, x, 0) {
				right++
			} else {
				wrong++
			}
		}
	}
	if right < 3000 || wrong < 10000 {
		t.Errorf("%d were responses, %d were none", right, wrong)
	}
}

// P15.4: at each place of a stream of responses stands what a second reading reads there.
func TestEachPlace(t *testing.T) {
	random := sample.New()
	for range 30 {
		s := ""
		for range 3 {
			r := some(random)
			r.Body = r.Body[:min(len(r.Body), 200)]
			s += text(r)
		}
		count := 0
		for at := range len(s) + 1 {
			if back(t, s, at) {
				count++
			}
		}
		if count < 3 {
			t.Fatal(count)
		}
	}
}

// P15.4: a body in which responses stand is read as they are, at the place at which they begin.
func TestWithin(t *testing.T) {
	inner := text(with("a", "b"))
	r := Plain(404, false)
	r.Body = []byte("ab" + inner + "c")
	s := text(r)
	at := strings.Index(s, inner)
	reads(t, s, 0, r, len(s))
	reads(t, s, at, with("a", "b"), at+len(inner))
}
