package resp

import (
	"strconv"
	"strings"
	"testing"

	"ostiary/api"
	"ostiary/sample"
)

// few tells responses of several kinds.
func few() []api.Resp {
	r := api.Resp{Status: 200, Fields: []api.Field{{Name: "Content-Type", Value: "application/dns-message"}, {Name: "a", Value: "b: c"}}, Body: []byte("body\r\n\r\n!!")}
	a, b, c := with(), with("a", "", "b", "\xff\t!", "a", "x"), with("c", strings.Repeat("v", 300))
	b.Status, b.Keep, b.Body = 431, false, []byte("b")
	c.Body = []byte(strings.Repeat("c", 100))
	return []api.Resp{r, a, b, c, Plain(404, false), Plain(505, true)}
}

// not holds that bytes do not begin with a response, nor with bytes ahead of them or behind them.
func not(t *testing.T, l ...string) {
	t.Helper()
	for _, s := range l {
		s = asWritten(s)
		refuses(t, s, 0, api.ErrBytes)
		refuses(t, "abc"+s, 3, api.ErrBytes)
		refuses(t, s+"\r\n\r\n"+text(with()), 0, api.ErrBytes)
	}
}

// P15.2: the places at which there is nothing to read, and the place at the end.
func TestPlaces(t *testing.T) {
	for _, s := range []string{"", "a", text(with()), text(with()) + text(with("a", "b"))} {
		for _, at := range []int{-1, -2, -100, -1 << 31, -1 << 32, -1 << 63, len(s) + 1, len(s) + 2, len(s) + 100, 1 << 31, 1 << 32, 1<<32 + len(s), 1<<63 - 1} {
			refuses(t, s, at, api.ErrRange)
		}
		refuses(t, s, len(s), api.ErrBytes)
	}
	refuses(t, "", 0, api.ErrBytes)
	for _, at := range []int{-1, 1} {
		if _, _, e := Read(nil, at); e != api.ErrRange {
			t.Error(at, e)
		}
	}
	if _, _, e := Read(nil, 0); e != api.ErrBytes {
		t.Error(e)
	}
}

// P15.2: a response behind others and ahead of others, and at no place but its own.
func TestReadBehind(t *testing.T) {
	for _, r := range few() {
		s := text(r)
		for _, ahead := range []string{"", "a", "\r\n", "\r\n\r\n", "HTTP/1.1 ", text(with()), s, s[:len(s)-1], strings.Repeat("x", 9000)} {
			for _, behind := range []string{"", "a", "\r\n", s, s[1:], strings.Repeat("y", 9000)} {
				reads(t, ahead+s+behind, len(ahead), r, len(ahead+s))
			}
		}
		for at := range len(s) + 40 {
			reads(t, strings.Repeat(" ", at)+s, at, r, at+len(s))
			if at > 0 && at < len(s) {
				refuses(t, s, at, api.ErrBytes)
				refuses(t, s+"a", at, api.ErrBytes)
			}
		}
	}
}

// P15.2: bytes that are cut at each place are those of no response.
func TestCut(t *testing.T) {
	for _, r := range few() {
		s := text(r)
		for n := range len(s) {
			refuses(t, s[:n], 0, api.ErrBytes)
			refuses(t, "ab"+s[:n], 2, api.ErrBytes)
		}
		reads(t, s, 0, r, len(s))
	}
}

// P15.2: one byte changed, left out or put in, at each place: what is read is what a second reading reads.
func TestOneByte(t *testing.T) {
	for _, r := range few() {
		s := text(r)
		for at := range len(s) {
			for _, x := range "\x00\t\n\r (-./0129:;AaC~\x7f" + one(int(s[at])^1&127) + one(int(s[at])^32&127) {
				back(t, s[:at]+one(int(x))+s[at+1:], 0)
				back(t, s[:at]+one(int(x))+s[at:], 0)
			}
			back(t, s[:at]+s[at+1:], 0)
			back(t, s[:at]+s[at+1:]+"x", 0)
			back(t, s[:at]+s[at:at+1]+s[at:], 0)
		}
	}
}

// P15.2: in the first line, in the length and in what says that the connection ends, each byte that is otherwise is refused; in a body it is told.
func TestFirmBytes(t *testing.T) {
	s := asWritten("HTTP/1.1 503 Service Unavailable;Content-Length: 12;Connection: close;;twelve bytes")
	head := len(s) - 12
	for at := range len(s) {
		for x := range 256 {
			other := s[:at] + one(x) + s[at+1:]
			switch {
			case at >= head:
				reads(t, other, 0, api.Resp{Status: 503, Body: []byte(other[head:])}, len(s))
			case other == s:
				reads(t, other, 0, api.Resp{Status: 503, Body: []byte("twelve bytes")}, len(s))
			case s[at] == '2' && '0' <= x && x < '2':
				size := 10 + x - '0'
				reads(t, other, 0, api.Resp{Status: 503, Body: []byte("twelve bytes")[:size]}, head+size)
			default:
				refuses(t, other, 0, api.ErrBytes)
			}
		}
	}
}

// P15.2: each status with each reason.
func TestReasonOfAnother(t *testing.T) {
	for status, words := range told {
		for _, s := range told {
			line := "HTTP/1.1 " + strconv.Itoa(status) + " " + s + ";Content-Length: 1;;x"
			if s == words {
				reads(t, asWritten(line), 0, api.Resp{Status: status, Body: []byte("x"), Keep: true}, len(asWritten(line)))
			} else {
				not(t, line)
			}
		}
		for _, s := range []string{"", " ", strings.ToUpper(words), strings.ToLower(words), words + " ", words + "\t", " " + words, words[1:], words[:len(words)-1], words + words, words + ";", words + "\r", words + "\n", strings.ReplaceAll(words, " ", "  "), strings.ReplaceAll(words, " ", "\t")} {
			if s != words {
				not(t, "HTTP/1.1 "+strconv.Itoa(status)+" "+s+";Content-Length: 1;;x")
			}
		}
		not(t, "HTTP/1.1 "+strconv.Itoa(status)+words+";Content-Length: 1;;x", "HTTP/1.1 "+strconv.Itoa(status)+";Content-Length: 1;;x")
	}
}

// P15.2: numbers that are no status, and statuses that are written otherwise.
func TestStatusOtherwise(t *testing.T) {
	for n := range 10100 {
		if _, is := told[n]; !is {
			refuses(t, asWritten("HTTP/1.1 "+strconv.Itoa(n)+" OK;Content-Length: 0;;"), 0, api.ErrBytes)
			refuses(t, asWritten("HTTP/1.1 "+strconv.Itoa(n)+" ;Content-Length: 0;;"), 0, api.ErrBytes)
		}
	}
	for _, s := range []string{"0200", "00200", "+200", "-200", " 200", "200 ", "20", "2000", "2OO", "200.", "200.0", "2e2", "0xc8", "2_00", "65736", "4294967496", "18446744073709551816", "", " ", "x", "\x00200", "２００", "201"} {
		not(t, "HTTP/1.1 "+s+" OK;Content-Length: 0;;", "HTTP/1.1 "+s+";Content-Length: 0;;")
	}
	for _, s := range []string{"", " ", "HTTP/1.0 ", "HTTP/1.2 ", "HTTP/2 ", "HTTP/2.0 ", "http/1.1 ", "HTTP/1.1", "HTTP/1.1  ", "HTTP/1.1\t", " HTTP/1.1 ", ";HTTP/1.1 ", "HTTP/1.1;", "HTTP/1.1 HTTP/1.1 ", "a HTTP/1.1 ", "HTTPS/1.1 ", "HTTP/11 ", "XTTP/1.1 "} {
		not(t, s+"200 OK;Content-Length: 0;;", s+"404 Not Found;a: b;Content-Length: 0;;")
	}
	not(t, "", ";", ";;", "a", "a;;", "Content-Length: 0;;", ";Content-Length: 0;;", "a: b;Content-Length: 0;;", "Connection: close;;", "GET / HTTP/1.1;Host: x;;", "HTTP/1.1 200 OK", "HTTP/1.1 200 OK;", "HTTP/1.1 200 OK;;", "HTTP/1.1 200 OK;a: b;;", "HTTP/1.1 200 OK;a: b;Connection: close;;")
}

// P15.2: how long the body is, written in each way that is not that of its bytes.
func TestLengthOtherwise(t *testing.T) {
	for _, body := range []string{"", "x", "0123456789", strings.Repeat("b", 300)} {
		n := strconv.Itoa(len(body))
		for _, s := range []string{"+" + n, "-" + n, " " + n, "\t" + n, n + " ", n + "\t", "0" + n, "00" + n, "00000000000000000000" + n, n + ".", n + ".0", "0x" + n, n + "_", "_" + n, n + "e0", n + "x", "x" + n, n + "," + n, n + ", " + n, n + "\x00", n + "\r", n + "\n", "", " ", "x", "-", "+", "-0", "+0", "４"} {
			not(t, "HTTP/1.1 200 OK;Content-Length: "+s+";;"+body, "HTTP/1.1 200 OK;a: b;Content-Length: "+s+";Connection: close;;"+body)
		}
		for _, n := range []int{len(body) + 1, len(body) + 2, len(body) + 256, len(body) + 65536, len(body) + 1<<32, 65535, 65536, 65537, 99999, 100000, 4294967295, 4294967296, 1<<63 - 1} {
			s := asWritten("HTTP/1.1 200 OK;Content-Length: " + strconv.Itoa(n) + ";;")
			refuses(t, s+body, 0, api.ErrBytes)
			refuses(t, "ab"+s+body, 2, api.ErrBytes)
		}
		for _, n := range []string{"18446744073709551616", "18446744073709551617", "18446744073709551626", "99999999999999999999999", "655350", "065535", "65536", "131071", strings.Repeat("9", 4000), strings.Repeat("9", 9000), strings.Repeat("0", 9000)} {
			not(t, "HTTP/1.1 200 OK;Content-Length: "+n+";;"+strings.Repeat("b", 132000))
		}
	}
}

// P15.2: a body of which fewer bytes are told than stand there ends ahead of them; where one is missing, there is no response.
func TestLengthNear(t *testing.T) {
	for _, n := range []int{0, 1, 8, 9, 10, 11, 98, 99, 100, 101, 9998, 9999, 10000, 10001, 65534, 65535} {
		s := asWritten("HTTP/1.1 200 OK;Content-Length: " + strconv.Itoa(n) + ";;")
		body := strings.Repeat("b", n)
		r := api.Resp{Status: 200, Body: []byte(body), Keep: true}
		reads(t, s+body, 0, r, len(s)+n)
		reads(t, s+body+"b", 0, r, len(s)+n)
		reads(t, "c"+s+body+"bb", 1, r, 1+len(s)+n)
		if n > 0 {
			refuses(t, s+body[1:], 0, api.ErrBytes)
			refuses(t, "cc"+s+body[1:], 2, api.ErrBytes)
		}
	}
	refuses(t, asWritten("HTTP/1.1 200 OK;Content-Length: 65536;;")+strings.Repeat("b", 65536), 0, api.ErrBytes)
	refuses(t, asWritten("HTTP/1.1 200 OK;Content-Length: 65536;;")+strings.Repeat("b", 65535), 0, api.ErrBytes)
}

// P15.2: the length twice, in another place than the last one, none at all, and its name written otherwise.
func TestLengthElsewhere(t *testing.T) {
	for _, end := range []string{";", "Connection: close;;"} {
		not(t,
			"HTTP/1.1 200 OK;Content-Length: 1;Content-Length: 1;"+end+"x",
			"HTTP/1.1 200 OK;Content-Length: 1;content-length: 1;"+end+"x",
			"HTTP/1.1 200 OK;content-length: 1;Content-Length: 1;"+end+"x",
			"HTTP/1.1 200 OK;Content-Length: 0;Content-Length: 1;"+end+"x",
			"HTTP/1.1 200 OK;Content-Length: 1;Content-Length: 0;"+end+"x",
			"HTTP/1.1 200 OK;Content-Length: 1;a: b;Content-Length: 1;"+end+"x",
			"HTTP/1.1 200 OK;Content-Length: 1;a: b;"+end+"x",
			"HTTP/1.1 200 OK;c: d;Content-Length: 1;a: b;"+end+"x",
			"Content-Length: 1;HTTP/1.1 200 OK;"+end+"x",
			"HTTP/1.1 200 OK;"+end+"x",
			"HTTP/1.1 200 OK;a: b;"+end+"x",
			"HTTP/1.1 200 OK;Content-Length: 1;transfer-encoding: x;"+end+"x",
			"HTTP/1.1 200 OK;transfer-encoding: x;Content-Length: 1;"+end+"x",
		)
		for _, name := range []string{"content-length: ", "CONTENT-LENGTH: ", "Content-length: ", "content-Length: ", "Content-Length:", "Content-Length:  ", "Content-Length:\t", "Content-Length : ", " Content-Length: ", "Content-Length ", "Content-Length", "Content_Length: ", "Content-Lengths: ", "ContentLength: ", "Length: ", "X-Content-Length: ", "Content-Length: \t", ": "} {
			not(t, "HTTP/1.1 200 OK;"+name+"1;"+end+"x", "HTTP/1.1 200 OK;a: b;"+name+"1;"+end+"x")
		}
	}
}

// P15.2: what says that the connection ends, written otherwise, twice, ahead of the length, with what does not belong there behind it.
func TestCloseOtherwise(t *testing.T) {
	reads(t, asWritten("HTTP/1.1 200 OK;Content-Length: 1;Connection: close;;x"), 0, api.Resp{Status: 200, Body: []byte("x")}, 58)
	for _, line := range []string{"connection: close", "CONNECTION: close", "Connection: Close", "Connection: CLOSE", "Connection: keep-alive", "Connection: ", "Connection:close", "Connection:  close", "Connection: close ", "Connection: close\t", "Connection: close, close", "Connection : close", " Connection: close", "Connection close", "Connection: clos", "Connection: closed", "Connection", "close", "a: b", "a", " ", ":", ": ", "\x00", "Connection: close\r", "Connection: close\n", "Content-Type: text/plain"} {
		not(t, "HTTP/1.1 200 OK;Content-Length: 1;"+line+";;x", "HTTP/1.1 200 OK;a: b;Content-Length: 1;"+line+";;x")
		not(t, "HTTP/1.1 200 OK;Content-Length: 1;"+line+";Connection: close;;x", "HTTP/1.1 200 OK;Content-Length: 1;Connection: close;"+line+";;x")
	}
	not(t,
		"HTTP/1.1 200 OK;Content-Length: 1;Connection: close;Connection: close;;x",
		"HTTP/1.1 200 OK;Connection: close;Content-Length: 1;;x",
		"HTTP/1.1 200 OK;connection: close;Content-Length: 1;;x",
		"HTTP/1.1 200 OK;Connection: keep-alive;Content-Length: 1;;x",
		"HTTP/1.1 200 OK;Connection: close;Content-Length: 1;Connection: close;;x",
		"HTTP/1.1 200 OK;a: b;Connection: close;c: d;Content-Length: 1;;x",
		"Connection: close;HTTP/1.1 200 OK;Content-Length: 1;;x",
	)
}

// P15.2: fields as they may not be, and lines that are no fields.
func TestFieldsOtherwise(t *testing.T) {
	for _, line := range []string{"a:b", "a:\tb", "a:  b", "a : b", "a: b ", "a: b\t", "a: \tb", "a:  ", "a: \t", "a:", "a", "", " ", ":", ": ", ": b", " a: b", "\ta: b", "a b: c", "a:: b", "(: b", "a: b\x00", "a: \x7f", "\xe4: b", "a=b", "a;b", strings.Repeat("n", 65) + ": v", "n: " + strings.Repeat("v", 4096), "nn: " + strings.Repeat("v", 4095), "n: " + strings.Repeat("v", 9000), strings.Repeat("n", 9000)} {
		not(t, "HTTP/1.1 200 OK;"+line+";Content-Length: 1;;x", "HTTP/1.1 200 OK;c: d;"+line+";e: f;Content-Length: 1;Connection: close;;x")
	}
	for _, word := range []string{"content-length", "connection", "transfer-encoding"} {
		for _, name := range cases(word) {
			for _, value := range []string{"", "0", "1", "close"} {
				not(t, "HTTP/1.1 200 OK;"+name+": "+value+";Content-Length: 1;;x")
			}
		}
	}
	for fields, is := range map[int]bool{0: true, 15: true, 16: true, 17: false, 18: false, 40: false, 3000: false} {
		s := "HTTP/1.1 200 OK;" + strings.Repeat("a: b;", fields) + "Content-Length: 1;;x"
		if is {
			back(t, asWritten(s), 0)
		} else {
			not(t, s)
		}
	}
	for size, is := range map[int]bool{4095: true, 4096: true, 4097: false, 4098: false} {
		s := "HTTP/1.1 200 OK;n: " + strings.Repeat("v", 3000) + ";m: " + strings.Repeat("w", size-3002) + ";Content-Length: 1;Connection: close;;x"
		if is != back(t, asWritten(s), 0) {
			t.Fatal(size)
		}
	}
}

// P15.2: the longest bytes ahead of a body that there are.
func TestLongestHead(t *testing.T) {
	r := api.Resp{Status: 431, Body: []byte(strings.Repeat("\r\n\r\n ", 13107))}
	for range 16 {
		r.Fields = append(r.Fields, api.Field{Name: strings.Repeat("n", 64), Value: strings.Repeat("v", 192)})
	}
	s := text(r)
	if len(s) != 4250+65535 {
		t.Fatal(len(s))
	}
	may(t, r)
	reads(t, "a"+s+s, 1, r, 1+len(s))
	reads(t, "a"+s+s, 1+len(s), r, 1+2*len(s))
	refuses(t, s[:len(s)-1], 0, api.ErrBytes)
}

// P15.2: lines' ends of one byte alone, of the two the other way round, and of more.
func TestLinesEnds(t *testing.T) {
	s := "HTTP/1.1 200 OK;a: b;Content-Length: 2;Connection: close;;xy"
	for at := range len(s) {
		if s[at] != ';' {
			continue
		}
		for _, end := range []string{"\r", "\n", "\n\r", "\r\r\n", "\r\r", "\n\n", "", " ", " ;", "\x0b", "\x85", "\r\x00\n", "\xe2\x80\xa8"} {
			not(t, s[:at]+end+s[at+1:])
		}
		for _, more := range []string{"\r", "\n", " ", "\t", ";", ";;", " ;"} {
			if at < strings.Index(s, "Content-Length") || more[0] != ';' && at < strings.Index(s, ";;") {
				not(t, s[:at+1]+more+s[at+1:])
			}
		}
	}
	not(t, strings.ReplaceAll(s, ";", "\r"), strings.ReplaceAll(s, ";", "\n"), strings.ReplaceAll(s, ";", "\n\r"))
}

// P15.2: bodies that hold lines' ends, or what looks like a response, or like a part of one.
func TestBodiesLikeHeads(t *testing.T) {
	s := text(with("a", "b"))
	for _, body := range []string{"\r\n", "\r\n\r\n", "\n", "\r", s, s + s, s[:len(s)-1], s[1:], "Content-Length: 5\r\n\r\n", "Connection: close\r\n\r\n", ": ", "HTTP/1.1 200 OK\r\n", "\x00"} {
		for _, keep := range []bool{true, false} {
			r := api.Resp{Status: 200, Body: []byte(body), Keep: keep}
			may(t, r)
			reads(t, s+text(r)+s, len(s), r, len(s+text(r)))
			reads(t, text(r)+body, 0, r, len(text(r)))
		}
	}
}

// P15.2: bytes of any kind.
func TestAnyBytes(t *testing.T) {
	random := sample.New()
	l := []string{"HTTP/1.1 ", "200", " ", "OK", "404 Not Found", "\r\n", "\r\n", "\r", "\n", "\r\n\r\n", "Content-Length: ", "Content-Length: 1\r\n", "Content-Length: 0\r\n\r\n", "0", "1", "2", "Connection: close\r\n", "a: b\r\n", "a:", "x", "HTTP/1.1 200 OK\r\n", "\x00"}
	for range 30000 {
		s := ""
		for range random.Below(12) {
			s += l[random.Below(len(l))]
		}
		back(t, s, 0)
		back(t, "HTTP/1.1 200 OK\r\n"+s, 0)
		back(t, "HTTP/1.1 200 OK\r\n"+s+"Content-Length: 1\r\n\r\nx", 0)
		back(t, random.Bytes(random.Below(20))+s, random.Below(3))
	}
}
