package head

import (
	"regexp"
	"strings"
	"testing"

	"ostiary/api"
	"ostiary/sample"
)

// What a head is made of, said otherwise than by the package.
var (
	isLines   = regexp.MustCompile(`^(?:[^\r\n]+\r\n)*\r\n$`)
	isFirst   = regexp.MustCompile(`^([^ ]+) ([^ ]+) ([^ ]+)$`)
	isMethod  = regexp.MustCompile("^[0-9A-Za-z!#$%&'*+\\-.^_`|~]{1,16}$")
	isVersion = regexp.MustCompile(`^HTTP/[0-9]\.[0-9]$`)
	isKnown   = regexp.MustCompile(`^HTTP/1\.([01])$`)
	isTarget  = regexp.MustCompile(`^/[!-~]*$`)
	isName    = regexp.MustCompile("^[0-9A-Za-z!#$%&'*+\\-.^_`|~]{1,64}$")
	isField   = regexp.MustCompile(`^([^:]*):[\t ]*((?:[^\x00-\x20\x7f](?:[^\x00-\x08\x0a-\x1f\x7f]*[^\x00-\x20\x7f])?)?)[\t ]*$`)
	isHost    = regexp.MustCompile(`^[Hh][Oo][Ss][Tt]$`)
)

// read tells a head, or a status, by a second reading.
func read(s string) (api.Head, int) {
	none := api.Head{}
	if len(s) > 4096 {
		return none, 431
	}
	if !isLines.MatchString(s) {
		return none, 400
	}
	lines := strings.Split(strings.TrimSuffix(s, "\r\n\r\n"), "\r\n")
	w := isFirst.FindStringSubmatch(lines[0])
	switch {
	case w == nil, !isMethod.MatchString(w[1]), !isVersion.MatchString(w[3]):
		return none, 400
	case !isKnown.MatchString(w[3]):
		return none, 505
	case len(w[2]) > 2048:
		return none, 414
	case !isTarget.MatchString(w[2]):
		return none, 400
	}
	h := api.Head{Method: w[1], Target: w[2]}
	if w[3] == "HTTP/1.1" {
		h.Minor = 1
	}
	hosts := 0
	for i, line := range lines[1:] {
		f := isField.FindStringSubmatch(line)
		switch {
		case i == 32:
			return none, 431
		case f == nil || !isName.MatchString(f[1]):
			return none, 400
		case isHost.MatchString(f[1]):
			hosts++
		}
		h.Fields = append(h.Fields, api.Field{Name: f[1], Value: f[2]})
	}
	if hosts > 1 || hosts < h.Minor {
		return none, 400
	}
	return h, 200
}

// back holds that bytes are parsed as by the second reading, and that what is parsed may be, but for how many bytes it has, and is parsed again as it was of what it is written as. It tells the status.
func back(t *testing.T, s string) int {
	t.Helper()
	h, status := read(s)
	if status != 200 {
		refuses(t, s, status)
		return status
	}
	parses(t, s, h)
	mays(t, h, len(text(h)) <= 4096)
	return status
}

// mixed tells one of these texts; now and then one of bytes of any kind.
func mixed(random *sample.Source, l ...string) string {
	if random.Below(60) == 0 {
		return random.Bytes(random.Below(4))
	}
	return l[random.Below(len(l))]
}

// bytesOf tells the bytes of a head, of which now and then something is otherwise than it should be.
func bytesOf(random *sample.Source) string {
	s := mixed(random, "GET", "POST", "p", "M1!~", "OPTIONS", strings.Repeat("M", 15+random.Below(3))) + " "
	s += mixed(random, "/", "/dns-query?dns=AAAA", "/a:b", "//", "/~", "/"+strings.Repeat("t", 2040+random.Below(10))) + " "
	s += mixed(random, "HTTP/1.1", "HTTP/1.1", "HTTP/1.1", "HTTP/1.1", "HTTP/1.0", "HTTP/1.0", "HTTP/1.0", "HTTP/1.0", "HTTP/2.0") + "\r\n"
	host := random.Below(4)
	for i := range random.Below(5) + random.Below(2)*random.Below(40) {
		if i == host {
			s += mixed(random, "Host:", "host: x", "HOST:\tx ") + "\r\n"
		} else {
			s += mixed(random, "a", "Accept", "n-1", strings.Repeat("n", 60+random.Below(6)), "hosts") + ":" + mixed(random, "", " ", "\t ") + mixed(random, "", "v", "v w", "v:w", "\xff", "a, b;c=\"d\"", strings.Repeat("v", random.Below(400))) + mixed(random, "", " ", "\t") + "\r\n"
		}
	}
	return s + "\r\n"
}

// P13.6, and P13.2 by it: many heads, as they should be and with what should not be, and each of them with a byte that is otherwise, or missing, or too much.
func TestManyHeads(t *testing.T) {
	random := sample.New()
	count := map[int]int{}
	odd := "\r\n\t :/HTP1.0ah\x00\x7f\x80\xff("
	for range 10000 {
		s := bytesOf(random)
		count[back(t, s)]++
		at, to := random.Below(len(s)), random.Below(len(odd))
		back(t, s[:at]+odd[to:to+1]+s[at+1:])
		back(t, s[:at]+odd[to:to+1]+s[at:])
		back(t, s[:at]+s[at+1:])
	}
	for status, least := range map[int]int{200: 2500, 400: 1000, 414: 150, 431: 150, 505: 250} {
		if count[status] < least {
			t.Errorf("the status %d came %d times", status, count[status])
		}
	}
}

// P13.2 and P13.6: short bytes of all kinds, put together of pieces of heads.
func TestShortBytes(t *testing.T) {
	random := sample.New()
	l := []string{"G", " ", "/", "HTTP/1.0", "HTTP/1.1", "\r\n", "\r", "\n", ":", "\t", "host", "a", "HTTP/3.0", "\x00"}
	for range 40000 {
		s := ""
		for range random.Below(14) {
			s += l[random.Below(len(l))]
		}
		back(t, s)
		back(t, "G / HTTP/1.0\r\n"+s+"\r\n\r\n")
		back(t, s+"\r\n\r\n")
	}
}

// P13.6: what has as many bytes as may be, and is written with a blank more behind each colon, may not be written; with blanks that were there it may.
func TestWrittenLonger(t *testing.T) {
	for n := range 33 {
		for _, blanks := range []string{"", " ", "\t", " \t"} {
			s := "GET / HTTP/1.0\r\n" + strings.Repeat("a:"+blanks+"\r\n", n)
			last := "b:" + blanks
			size := 4096 - len(s) - len(last) - 4
			s += last + strings.Repeat("v", size) + "\r\n\r\n"
			h, status := Parse([]byte(s))
			if n == 32 {
				if status != 431 {
					t.Fatal(status)
				}
				continue
			}
			if status != 200 || len(h.Fields) != n+1 || len(s) != 4096 {
				t.Fatal(n, status, len(s))
			}
			mays(t, h, blanks != "")
		}
	}
}

// P13.6: heads that are written are parsed as they were, whatever they have.
func TestHeadsBack(t *testing.T) {
	random := sample.New()
	letters, targets := sample.All(sample.InName), sample.All(inTarget)
	for range 20000 {
		h := api.Head{Method: random.Of(letters, 1+random.Below(16)), Target: "/" + random.Of(targets, random.Below(81)), Minor: random.Below(2)}
		if random.Below(10) == 0 {
			h.Target = "/" + random.Of(targets, 1900+random.Below(148))
		}
		fields := random.Below(6) + random.Below(2)*random.Below(27)
		host := random.Below(fields + 1)
		for i := range fields + h.Minor {
			f := random.Field(12, 40)
			if random.Below(20) == 0 {
				f.Name = random.Of(letters, 60+random.Below(5))
			}
			if i == host && h.Minor == 1 {
				f.Name = "hoSt"
			}
			h.Fields = append(h.Fields, f)
		}
		mays(t, h, len(text(h)) <= 4096)
	}
}
