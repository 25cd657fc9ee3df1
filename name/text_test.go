package name

import (
	"regexp"
	"strconv"
	"strings"
	"testing"

	"ostiary/api"
	"ostiary/sample"
)

// written is one byte of a label as it may stand in a text, or the point behind one.
var written = regexp.MustCompile(`^(\\[0-9]{3}|\\[!-/:-~]|[!-\[\]-~])`)

// read tells the name of a text, or the fault, by cutting what may stand there off its front.
func read(text string) (string, api.Fault) {
	if text == "." {
		return "\x00", api.Fault{}
	}
	if text == "" {
		return "", api.Fault{Err: api.ErrBytes}
	}
	name, label, start := "", "", 0
	end := func() api.Fault {
		if len(label) > 63 {
			return api.Fault{Err: api.ErrLong, At: start}
		}
		name += string(rune(len(label))) + label
		label = ""
		return api.Fault{}
	}
	for at := 0; at < len(text); {
		w := written.FindString(text[at:])
		switch {
		case w == "" && text[at] == '\\' && at+1 < len(text) && (text[at+1] < 33 || text[at+1] > 126):
			return "", api.Fault{Err: api.ErrBytes, At: at + 1}
		case w == "", w == "." && at == start:
			return "", api.Fault{Err: api.ErrBytes, At: at}
		case w == ".":
			if f := end(); f.Err != api.OK {
				return "", f
			}
			start = at + 1
		case len(w) == 4:
			n, _ := strconv.Atoi(w[1:])
			if n > 255 {
				return "", api.Fault{Err: api.ErrRange, At: at}
			}
			label += string([]byte{byte(n)})
		default:
			label += w[len(w)-1:]
		}
		at += len(w)
	}
	if label != "" {
		if f := end(); f.Err != api.OK {
			return "", f
		}
	}
	if len(name) > 254 {
		return "", api.Fault{Err: api.ErrLong}
	}
	return name + "\x00", api.Fault{}
}

// spelt tells a byte as it stands in a text.
func spelt(c byte) string {
	switch {
	case c == '.' || c == '\\':
		return "\\" + string(rune(c))
	case c > 32 && c < 127:
		return string(rune(c))
	}
	n := strconv.Itoa(int(c))
	return "\\" + "000"[len(n):] + n
}

// The chapter's examples of texts, one by one.
func TestTextExamples(t *testing.T) {
	for _, x := range []struct {
		text, n string
		f       api.Fault
	}{
		{"www.Example.", "\x03www\x07Example\x00", api.Fault{}}, {"www.Example", "\x03www\x07Example\x00", api.Fault{}}, {".", "\x00", api.Fault{}},
		{"a..b", "", api.Fault{Err: api.ErrBytes, At: 2}}, {"a\\", "", api.Fault{Err: api.ErrBytes, At: 1}}, {"a\\25", "", api.Fault{Err: api.ErrBytes, At: 1}}, {"\\256", "", api.Fault{Err: api.ErrRange}}, {"", "", api.Fault{Err: api.ErrBytes}},
		{"\\a\\010.", "\x02a\x0a\x00", api.Fault{}},
	} {
		if n, f := Parse(x.text); n != x.n || f != x.f {
			t.Errorf("Parse(%q) = %q, %v", x.text, n, f)
		}
	}
	for n, want := range map[string]string{"\x01.\x00": "\\..", "\x02a\x07\x00": "a\\007."} {
		if s, e := Text(n); s != want || e != api.OK {
			t.Errorf("Text(%q) = %q, %v", n, s, e)
		}
	}
}

// P4.3: each byte of a label as it is told, in the middle and alone.
func TestTextOfEachByte(t *testing.T) {
	for c := range 256 {
		x := string([]byte{byte(c)})
		want := spelt(byte(c))
		if s, e := Text(named(x)); s != want+"." || e != api.OK {
			t.Errorf("%d alone: %q, %v", c, s, e)
		}
		if s, e := Text(named("a"+x+"0", "B", x+x)); s != "a"+want+"0.B."+want+want+"." || e != api.OK {
			t.Errorf("%d: %q, %v", c, s, e)
		}
	}
}

// P4.3: the texts of some names, written out.
func TestText(t *testing.T) {
	for _, x := range []struct{ n, want string }{
		{"\x00", "."}, {named("a"), "a."}, {named("www", "Example"), "www.Example."}, {named("a.b", "c"), "a\\.b.c."}, {named("\\"), "\\\\."}, {named("\\.", "."), "\\\\\\..\\.."}, {named("\x00"), "\\000."}, {named("\x01a"), "\\001a."}, {named("a b"), "a\\032b."},
		{named("!", "~", "\x7f", "\x20"), "!.~.\\127.\\032."}, {named("\xff0"), "\\2550."}, {named("\xc3\xa9"), "\\195\\169."}, {named("\t", "\n", "\x63"), "\\009.\\010.c."}, {named("\"(;@$)'"), "\"(;@$)'."},
		{strings.Repeat("\x01\xff", 127) + "\x00", strings.Repeat("\\255.", 127)}, {sized(255), strings.Repeat(strings.Repeat("x", 63)+".", 3) + strings.Repeat("x", 61) + "."},
	} {
		if s, e := Text(x.n); s != x.want || e != api.OK {
			t.Errorf("Text(%q) = %q, %v, not %q", x.n, s, e, x.want)
		}
	}
}

// P4.3: each byte as it stands in a text, at each place in a label: it is itself, or ends it, or is no byte of a text.
func TestParseEachByte(t *testing.T) {
	for c := range 256 {
		x := string([]byte{byte(c)})
		for _, ahead := range []string{"", "a", "a.", "ab\\..c"} {
			for _, text := range []string{ahead + x, ahead + x + "b", ahead + x + ".", ahead + "\\" + x, ahead + "\\" + x + "b", ahead + "\\1" + x + "1", ahead + "\\11" + x, ahead + "\\" + x + "."} {
				want, g := read(text)
				if n, f := Parse(text); n != want || f != g {
					t.Fatalf("Parse(%q) = %q, %v, not %q, %v", text, n, f, want, g)
				}
			}
		}
	}
}

// P4.3: all short texts of points, backslashes, digits, letters, and bytes that no text has.
func TestEachShortText(t *testing.T) {
	for _, text := range append(words(".\\0256aA", 6), words(".\\29! \x7f\xff~\x00", 5)...) {
		want, g := read(text)
		if n, f := Parse(text); n != want || f != g {
			t.Fatalf("Parse(%q) = %q, %v, not %q, %v", text, n, f, want, g)
		}
	}
}

// P4.3: three digits are a byte up to 255, and none from 256 on; no other digits are any.
func TestDigits(t *testing.T) {
	for n := range 1000 {
		d := strconv.Itoa(n + 1000)[1:]
		for _, ahead := range []string{"", "a", "b.", "\\000"} {
			got, f := Parse(ahead + "\\" + d + "7")
			if n > 255 {
				if got != "" || f != (api.Fault{Err: api.ErrRange, At: len(ahead)}) {
					t.Errorf("%s: %q, %v", d, got, f)
				}
				continue
			}
			l, e := Labels(got)
			if f != (api.Fault{}) || e != api.OK || !strings.HasSuffix(l[len(l)-1], string([]byte{byte(n), '7'})) {
				t.Errorf("%s: %q, %v", d, got, f)
			}
		}
	}
	for _, d := range []string{"0", "00", "2", "25", "99", "1a2", "12a", "1.2", "12.", "1\\2", "0x1", "1 2"} {
		if n, f := Parse("a\\" + d); n != "" || f != (api.Fault{Err: api.ErrBytes, At: 1}) {
			t.Errorf("a\\%s: %q, %v", d, n, f)
		}
	}
}

// P4.3: which fault is told of several, and where.
func TestFaultsInOrder(t *testing.T) {
	x63, x64 := strings.Repeat("x", 63), strings.Repeat("x", 64)
	dots := strings.Repeat("a.", 127)
	for _, x := range []struct {
		text string
		e    api.Errno
		at   int
	}{
		{"..", api.ErrBytes, 0}, {".a", api.ErrBytes, 0}, {".\x00", api.ErrBytes, 0}, {"a..", api.ErrBytes, 2}, {"a...", api.ErrBytes, 2}, {"a.b..c", api.ErrBytes, 4}, {"a\\...", api.ErrBytes, 4}, {"\\\\..", api.ErrBytes, 3},
		{" ", api.ErrBytes, 0}, {"a b", api.ErrBytes, 1}, {"a.\x7f", api.ErrBytes, 2}, {"\xc3\xa9", api.ErrBytes, 0}, {"a\x00", api.ErrBytes, 1}, {"a.b\n", api.ErrBytes, 3}, {"ab\t..", api.ErrBytes, 2},
		{"\\", api.ErrBytes, 0}, {"a.\\", api.ErrBytes, 2}, {"\\\\\\", api.ErrBytes, 2}, {"\\ ", api.ErrBytes, 1}, {"a\\\x7f", api.ErrBytes, 2}, {"a\\\x00b", api.ErrBytes, 2}, {"\\\xff", api.ErrBytes, 1},
		{"\\1", api.ErrBytes, 0}, {"\\12", api.ErrBytes, 0}, {"\\12\x00", api.ErrBytes, 0}, {"\\1 1", api.ErrBytes, 0}, {"\\12a", api.ErrBytes, 0}, {"\\12\\", api.ErrBytes, 0}, {"\\25.", api.ErrBytes, 0}, {"\\25..", api.ErrBytes, 0}, {"b.a\\9", api.ErrBytes, 3},
		{"\\256", api.ErrRange, 0}, {"\\999", api.ErrRange, 0}, {"ab\\300c", api.ErrRange, 2}, {"a.\\256.", api.ErrRange, 2}, {"\\256..", api.ErrRange, 0}, {"\\255\\256", api.ErrRange, 4}, {"\\256 ", api.ErrRange, 0}, {" \\256", api.ErrBytes, 0}, {"\\256\\", api.ErrRange, 0}, {"\\25\\256", api.ErrBytes, 0},
		{x64, api.ErrLong, 0}, {x64 + ".", api.ErrLong, 0}, {"a." + x64, api.ErrLong, 2}, {"a\\.b." + x64 + ".c", api.ErrLong, 5}, {x63 + "." + x64 + "." + x64, api.ErrLong, 64}, {x63 + "\\000", api.ErrLong, 0}, {x63 + "\\.", api.ErrLong, 0}, {x63 + "\\\\.a", api.ErrLong, 0}, {strings.Repeat("x", 256), api.ErrLong, 0}, {"b." + strings.Repeat("x", 1<<12), api.ErrLong, 2}, {"b." + strings.Repeat("x", 256) + ".c", api.ErrLong, 2},
		{x64 + " ", api.ErrBytes, 64}, {x64 + "\\", api.ErrBytes, 64}, {x64 + "\\256", api.ErrRange, 64}, {x64 + "\\1", api.ErrBytes, 64}, {x64 + "..", api.ErrLong, 0}, {x64 + ". ", api.ErrLong, 0}, {x64 + ".\\256", api.ErrLong, 0}, {"a.." + x64, api.ErrBytes, 2},
		{dots + "a", api.ErrLong, 0}, {dots + "a.", api.ErrLong, 0}, {dots + ".", api.ErrBytes, 254}, {dots + "a..", api.ErrBytes, 256}, {dots + "a.\\", api.ErrBytes, 256}, {dots + "a\\256", api.ErrRange, 255}, {dots + x64, api.ErrLong, 254}, {dots + "a." + x64 + ".", api.ErrLong, 256}, {strings.Repeat(x63+".", 4), api.ErrLong, 0}, {strings.Repeat(x63+".", 4) + " ", api.ErrBytes, 256}, {strings.Repeat(x63+".", 3) + x63[:62], api.ErrLong, 0},
		{strings.Repeat("\\.", 127) + " ", api.ErrBytes, 254}, {strings.Repeat("a.", 1<<12), api.ErrLong, 0},
	} {
		if n, f := Parse(x.text); n != "" || f != (api.Fault{Err: x.e, At: x.at}) {
			t.Errorf("Parse(%q) = %q, %v, not %v at %d", x.text, n, f, x.e, x.at)
		}
		if n, f := read(x.text); n != "" || f != (api.Fault{Err: x.e, At: x.at}) {
			t.Errorf("%q is read as %q, %v", x.text, n, f)
		}
	}
}

// P4.3: labels of 63 bytes and names of 255 may be, however many bytes of a text tell them.
func TestParseLimits(t *testing.T) {
	x63 := strings.Repeat("x", 63)
	for text, want := range map[string]string{
		x63: named(x63), x63 + ".": named(x63), strings.Repeat("\\000", 63): named(strings.Repeat("\x00", 63)), strings.Repeat("\\.", 63): named(strings.Repeat(".", 63)), x63[:62] + "\\255.a": named(x63[:62]+"\xff", "a"),
		strings.Repeat("a.", 127): strings.Repeat("\x01a", 127) + "\x00", strings.Repeat("\\255.", 127): strings.Repeat("\x01\xff", 127) + "\x00", strings.Repeat(x63+".", 3) + x63[:61]: sized(255), strings.Repeat(x63+".", 3) + x63[:61] + ".": sized(255),
	} {
		if n, f := Parse(text); n != want || f != (api.Fault{}) {
			t.Errorf("Parse(%q) = %q, %v", text, n, f)
		}
	}
}

// P4.3: the last point may be left out, but not the root's, nor is one that has a backslash ahead.
func TestLastPoint(t *testing.T) {
	for _, x := range []struct{ text, n string }{
		{"a", named("a")}, {"a.b", named("a", "b")}, {"a\\.", named("a.")}, {"a\\.b", named("a.b")}, {"\\.", named(".")}, {"\\\\", named("\\")}, {"a\\\\.b", named("a\\", "b")}, {"a\\046", named("a.")}, {"a\\046b", named("a.b")}, {"\\092", named("\\")}, {"\\092.b", named("\\", "b")}, {"\\A\\-\\!\\~", named("A-!~")},
	} {
		n, f := Parse(x.text)
		m, g := Parse(x.text + ".")
		if n != x.n || f != (api.Fault{}) || m != x.n || g != (api.Fault{}) {
			t.Errorf("%q: %q, %v; with a point %q, %v", x.text, n, f, m, g)
		}
	}
}

// P4.4: a name's text is read as it.
func TestTextBack(t *testing.T) {
	names := some()
	s := sample.New()
	for range 3000 {
		var l []string
		for left := 254; left > 1 && s.Below(6) > 0; {
			b := make([]byte, 1+s.Below(min(63, left-1)))
			for i := range b {
				b[i] = byte(s.Below(256))
			}
			l = append(l, string(b))
			left -= len(b) + 1
		}
		names = append(names, named(l...))
	}
	for _, n := range names {
		text, e := Text(n)
		if back, f := Parse(text); e != api.OK || back != n || f != (api.Fault{}) {
			t.Fatalf("%q is told %q, %v, and read %q, %v", n, text, e, back, f)
		}
	}
}

// P4.4: what is read, told, and read again, is the same name; what is told of it is told again as it was.
func TestParseBack(t *testing.T) {
	parts := []string{"a", "Z", "0", "9", "-", "\\.", "\\\\", "\\a", "\\!", "\\000", "\\010", "\\046", "\\065", "\\092", "\\255", "!", "~", ".", "."}
	s := sample.New()
	for range 20000 {
		text, last := "", "."
		for range 1 + s.Below(20) {
			if p := parts[s.Below(len(parts))]; p != "." || last != "." {
				text, last = text+p, p
			}
		}
		if text == "" {
			text = "."
		}
		n, f := Parse(text)
		told, e := Text(n)
		again, g := Parse(told)
		if f != (api.Fault{}) || e != api.OK || g != (api.Fault{}) || again != n || !Same(again, n) {
			t.Fatalf("%q is read %q, %v, told %q, %v, and read %q, %v", text, n, f, told, e, again, g)
		}
		if twice, _ := Text(again); twice != told {
			t.Fatalf("%q is told %q, and then %q", text, told, twice)
		}
	}
}

// Rule 7: a text with a fault leaves nothing behind: the next one is read as it would have been.
func TestFaultsLeaveNothing(t *testing.T) {
	for _, bad := range []string{"", "..", "a\\", "\\256", strings.Repeat("x", 64), strings.Repeat("a.", 128)} {
		Parse(bad)
		if n, f := Parse("www.Example"); n != named("www", "Example") || f != (api.Fault{}) {
			t.Errorf("behind %q: %q, %v", bad, n, f)
		}
	}
}
