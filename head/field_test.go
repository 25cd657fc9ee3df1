package head

import (
	"fmt"
	"strings"
	"testing"

	"ostiary/api"
	"ostiary/sample"
)

// P13.3: the first value, and how many there are.
func TestField(t *testing.T) {
	h := with(1, "A", "x", "b", "y", "a", "z", "", "none", "C", "", "c", "w", "a\xe4", "v", "K-1_@[`{^~", "u")
	for name, want := range map[string]struct {
		value string
		n     int
	}{
		"a": {"x", 2}, "A": {"x", 2}, "b": {"y", 1}, "B": {"y", 1}, "c": {"", 2}, "C": {"", 2}, "": {"none", 1},
		"d": {}, "ab": {}, "aa": {}, "a ": {}, " a": {}, "a:": {}, "x": {}, "\x00": {},
		"a\xe4": {"v", 1}, "A\xe4": {"v", 1}, "a\xc4": {}, "a\xe4\x00": {},
		"k-1_@[`{^~": {"u", 1}, "k-1_`[`{^~": {}, "k-1_@{`{^~": {}, "k-1_@[@{^~": {}, "k-1_@[`[^~": {}, "k-1_@[`{~~": {}, "k\r1_@[`{^~": {}, "k-1\x7f@[`{^~": {}, "k-\x11_@[`{^~": {},
	} {
		if value, n := Field(h, name); value != want.value || n != want.n {
			t.Errorf("Field of %q is %q, %d", name, value, n)
		}
		if value, n := Field(api.Head{}, name); value != "" || n != 0 {
			t.Errorf("of no field %q is %q, %d", name, value, n)
		}
	}
}

// P13.3: names are the same, but for A to Z, byte by byte, whatever letters others take as the same.
func TestSameNames(t *testing.T) {
	for x := range 256 {
		for y := range 256 {
			want := 0
			if x == y || x|32 == y|32 && 'a' <= x|32 && x|32 <= 'z' {
				want = 1
			}
			if _, n := Field(with(0, "n"+one(x), "v"), "N"+one(y)); n != want {
				t.Fatal(x, y, n)
			}
		}
	}
	for _, x := range []struct{ a, b string }{{"k", "\u212a"}, {"s", "\u017f"}, {"\u00e4", "\u00c4"}, {"i", "\u0130"}, {"\xff", "\xfe"}, {"\xff", "\ufffd"}, {"hoſt", "host"}} {
		if _, n := Field(with(0, x.a, "v"), x.b); n != 0 {
			t.Errorf("%q and %q are the same", x.a, x.b)
		}
		if _, n := Field(with(0, x.b, "v"), x.a); n != 0 {
			t.Errorf("%q and %q are the same", x.b, x.a)
		}
	}
}

// P13.3: of very many fields.
func TestManyFields(t *testing.T) {
	var h api.Head
	for i := range 100000 {
		h.Fields = append(h.Fields, api.Field{Name: "n" + fmt.Sprint(i%7), Value: fmt.Sprint(i)})
	}
	for i := range 8 {
		want, many := fmt.Sprint(i), 100000/7+min(1, max(0, 100000%7-i))
		if i == 7 {
			want, many = "", 0
		}
		if value, n := Field(h, "N"+fmt.Sprint(i)); value != want || n != many {
			t.Error(i, value, n)
		}
	}
}

// lengths holds what Length tells, of fields in this order, and among others.
func lengths(t *testing.T, n, status int, l ...string) {
	t.Helper()
	for _, h := range []api.Head{with(0, l...), with(1, l...), with(7, append([]string{"a", "1", "content-lengths", "5"}, append(l, "content", "x", "length", "3", "Content_Length", "z")...)...)} {
		if got, s := Length(h); got != n || s != status {
			t.Fatalf("Length of %.300q is %d, %d, not %d, %d", text(h), got, s, n, status)
		}
	}
}

// P13.4: the chapter's examples, and what is near them.
func TestLength(t *testing.T) {
	lengths(t, -1, 200)
	lengths(t, 7, 200, "content-length", "7", "content-length", "7")
	lengths(t, 0, 400, "content-length", "7", "content-length", "07")
	lengths(t, 0, 413, "content-length", "70000")
	lengths(t, 0, 400, "content-length", "x")
	for s, n := range map[string]int{
		"0": 0, "1": 1, "9": 9, "10": 10, "00": 0, "07": 7, "0000000000": 0, "0000000007": 7, "0000065535": 65535, "65534": 65534, "65535": 65535, "065535": 65535, "12345": 12345, "0000000010": 10,
	} {
		for _, name := range []string{"content-length", "Content-Length", "CONTENT-LENGTH"} {
			lengths(t, n, 200, name, s)
			lengths(t, n, 200, name, s, "content-LENGTH", s)
			lengths(t, n, 200, name, s, "content-LENGTH", s, "content-length", s)
		}
	}
	for _, s := range []string{"65536", "065536", "0000065536", "65537", "99999", "100000", "655350", "2147483648", "4294967295", "4294967296", "4294967297", "4295032831", "9999999999", "8589934592"} {
		lengths(t, 0, 413, "content-length", s)
		lengths(t, 0, 413, "content-length", s, "CONTENT-length", s)
		lengths(t, 0, 400, "content-length", s, "CONTENT-length", s+"1")
		lengths(t, 0, 400, "content-length", s, "content-length", "1")
		lengths(t, 0, 400, "content-length", "1", "content-length", s)
	}
	for _, s := range []string{
		"", "x", "-1", "+1", "-0", "+0", " 7", "7 ", "\t7", "7\t", " ", "7 7", "7,7", "7, 7", "7.0", "7e1", "0x7", "1_0", "0b1", "07x", "x07", "7\x00", "\x007", "７", "/", ":", "7/", "7:", "\xb7", "Inf",
		"00000000000", "00000000007", "12345678901", "99999999999", "18446744073709551616", "18446744073709551623", strings.Repeat("0", 100), strings.Repeat("9", 100), "99999999999999999999999",
	} {
		lengths(t, 0, 400, "content-length", s)
		lengths(t, 0, 400, "content-length", s, "content-length", s)
		lengths(t, 0, 400, "content-length", "7", "Content-Length", s)
		lengths(t, 0, 400, "content-length", s, "Content-Length", "7")
		lengths(t, 0, 400, "content-length", "70000", "Content-Length", s)
		lengths(t, 0, 400, "content-length", "70000", "content-length", "70000", "Content-Length", s)
	}
}

// P13.4: two values that are not the same, wherever they stand.
func TestTwoLengths(t *testing.T) {
	lengths(t, 0, 400, "content-length", "7", "content-length", "8")
	lengths(t, 0, 400, "content-length", "8", "content-length", "7")
	lengths(t, 0, 400, "content-length", "07", "content-length", "7")
	for at := range 6 {
		var l []string
		for i := range 6 {
			value := "7"
			if i == at {
				value = "6"
			}
			l = append(l, "content-length", value)
		}
		lengths(t, 0, 400, l...)
	}
}

// P13.4: 501 is ahead of all else.
func TestTransferEncoding(t *testing.T) {
	for _, name := range []string{"transfer-encoding", "Transfer-Encoding", "TRANSFER-encoding"} {
		for _, value := range []string{"", "x", "chunked", "7"} {
			lengths(t, 0, 501, name, value)
			for _, size := range []string{"7", "0", "x", "", "70000", "12345678901"} {
				lengths(t, 0, 501, name, value, "content-length", size)
				lengths(t, 0, 501, "content-length", size, name, value)
				lengths(t, 0, 501, "content-length", size, name, value, "content-length", "1"+size, name, value)
			}
		}
	}
	lengths(t, -1, 200, "transfer-encodings", "x", "transfer_encoding", "y", "transfer", "z", "ransfer-encoding", "x")
}

// P13.4: each number there is of one to five digits, and the first ones above.
func TestEachLength(t *testing.T) {
	for n := range 66000 {
		want, status := n, 200
		if n > 65535 {
			want, status = 0, 413
		}
		for _, s := range []string{fmt.Sprint(n), fmt.Sprintf("%07d", n), fmt.Sprintf("%010d", n)} {
			if got, is := Length(with(0, "content-length", s)); got != want || is != status {
				t.Fatal(s, got, is)
			}
		}
	}
}

// P13.4: each byte as a digit.
func TestDigits(t *testing.T) {
	for x := range 256 {
		if '0' <= x && x <= '9' {
			lengths(t, x-'0', 200, "content-length", one(x))
			lengths(t, 10*(x-'0')+1, 200, "content-length", one(x)+"1")
			lengths(t, 10+x-'0', 200, "content-length", "1"+one(x))
		} else {
			lengths(t, 0, 400, "content-length", one(x))
			lengths(t, 0, 400, "content-length", one(x)+"1")
			lengths(t, 0, 400, "content-length", "1"+one(x))
		}
	}
}

// keeps holds what Keep tells by the minor numbers 0 and 1, for values of fields of the name connection.
func keeps(t *testing.T, zero, one bool, l ...string) {
	t.Helper()
	var named []string
	for i, v := range l {
		named = append(named, []string{"connection", "Connection", "CONNECTION"}[i%3], v, "other", "close", "connections", "close, keep-alive", "keep-alive", "keep-alive", "close", "close")
	}
	for minor, want := range map[int]bool{0: zero, 1: one, -1: zero, 2: zero, 1<<32 + 1: zero} {
		if got := Keep(with(minor, named...)); got != want {
			t.Fatalf("HTTP/1.%d, %q: %v", minor, l, got)
		}
	}
}

// P13.5: the chapter's examples, and what is near them.
func TestKeep(t *testing.T) {
	keeps(t, false, true)
	for _, v := range []string{"", " ", ",", ", ,", "\t,", "a", "a, b", "x-close", "close-x", "clos", "closed", "close keep-alive", "close;keep-alive", "close x", "keepalive", "keep alive", "keep-alive;x", "keep-alive x", "c\u006cose\u00a0", "\u00a0close", "clo\u017fe", "\u212aeep-alive", "close\x00", "close\r\n", "close\v", "\"close\"", "keep-aliv", "eep-alive", "0", "\xff"} {
		keeps(t, false, true, v)
		keeps(t, false, true, v, v)
	}
	for _, word := range []string{"close", "Close", "CLOSE", "cLoSe"} {
		for _, v := range words(word) {
			keeps(t, false, false, v)
			keeps(t, false, false, "a", v)
			keeps(t, false, false, v, "a")
			for _, alive := range []string{"keep-alive", "Keep-Alive", "KEEP-ALIVE"} {
				keeps(t, false, false, v, alive)
				keeps(t, false, false, alive, v)
				keeps(t, false, false, alive+","+v)
				keeps(t, false, false, v+" , "+alive)
				keeps(t, false, false, alive, "x", v, "y")
			}
		}
	}
	for _, word := range []string{"keep-alive", "Keep-Alive", "KEEP-ALIVE", "kEEP-aLIVE"} {
		for _, v := range words(word) {
			keeps(t, true, true, v)
			keeps(t, true, true, "a", v)
			keeps(t, true, true, v, "a")
			keeps(t, true, true, v, v)
		}
	}
}

// words tells values in which a word is one of several, or alone.
func words(word string) []string {
	l := []string{word}
	for _, about := range []string{" ", "\t", " \t", "\t \t"} {
		l = append(l, about+word, word+about, about+word+about)
	}
	for _, v := range l {
		l = append(l, v+",", ","+v, ",,"+v+",,", "a,"+v, v+",b", "a , "+v+" ,\tb", " , "+v, "\t,\t"+v+"\t,\t")
	}
	return l
}

// P13.5: without a field of that name the other ones say nothing.
func TestKeepByOthers(t *testing.T) {
	for _, name := range []string{"", "connectio", "connections", "onnection", "keep-alive", "close", "proxy-connection", "conne\xe3tion", "connectıon"} {
		if Keep(with(0, name, "keep-alive")) || !Keep(with(1, name, "close")) {
			t.Error(name)
		}
	}
}

// P13.5: each way in which four values may be put together, against a plain reading.
func TestKeepWays(t *testing.T) {
	parts := []string{"close", "keep-alive", "x", ",", " ", ";"}
	for n := range 6 * 6 * 6 * 6 {
		v, rest := "", n
		for range 4 {
			v, rest = v+parts[rest%6], rest/6
		}
		shut, alive := false, false
		for _, w := range strings.Split(v, ",") {
			shut = shut || strings.Trim(w, " \t") == "close"
			alive = alive || strings.Trim(w, " \t") == "keep-alive"
		}
		keeps(t, alive && !shut, !shut, v)
	}
}

// P13.5: very many commas.
func TestManyCommas(t *testing.T) {
	keeps(t, false, true, strings.Repeat(",", 1<<20))
	keeps(t, true, true, strings.Repeat(",", 1<<20)+"keep-alive")
	keeps(t, false, false, "keep-alive"+strings.Repeat(" ,\t", 1<<18)+"close")
}

// P13.3 to P13.5: heads that may not be are told of as well, and none panics.
func TestAnyHeads(t *testing.T) {
	random := sample.New()
	often := []string{"", "host", "Connection", "content-length", "transfer-encoding", "close", "keep-alive", ",", "7", "65536", " ", "\xff", "a"}
	for range 20000 {
		var l []string
		for range 2 * random.Below(5) {
			s := often[random.Below(len(often))]
			if random.Below(3) == 0 {
				s += random.Bytes(random.Below(4))
			}
			l = append(l, s)
		}
		h := with(random.Below(4)-1, l...)
		value, n := Field(h, "HOST")
		count, first := 0, ""
		for i, f := range h.Fields {
			if strings.EqualFold(f.Name, "host") {
				if count++; count == 1 {
					first = h.Fields[i].Value
				}
			}
		}
		if value != first || n != count {
			t.Fatalf("%q: %q, %d", text(h), value, n)
		}
		if n, status := Length(h); n < -1 || n > 65535 || status != 200 && n != 0 || status != 200 && status != 400 && status != 413 && status != 501 {
			t.Fatalf("%q: %d, %d", text(h), n, status)
		}
		Keep(h)
		if e := Check(h); e == api.OK {
			may(t, h)
		} else {
			mayNot(t, h)
		}
	}
}
