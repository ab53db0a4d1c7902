package chars_test

import (
	"regexp"
	"strings"
	"testing"
	"unicode/utf8"

	"carding/chars"
)

// firstBad gives the place of the first thing that is no Char, by the chapter's words.
func firstBad(s string, char [][2]int) int {
	end := right(s)
	for at, r := range end {
		if !of(int(r), char) {
			return at
		}
	}
	if len(end) < len(s) {
		return len(end)
	}
	return -1
}

// bad holds Bad against what is wanted.
func bad(t *testing.T, s string, want int) {
	t.Helper()
	if got := chars.Bad(s); got != want {
		t.Errorf("Bad(%.99q) = %d; want %d", s, got, want)
	}
}

// takes holds Take against what is wanted.
func takes(t *testing.T, s string, want int) {
	t.Helper()
	if got := chars.Take(s); got != want {
		t.Errorf("Take(%.99q) = %d; want %d", s, got, want)
	}
}

// blank holds Blank against what is wanted.
func blank(t *testing.T, s string, want bool) {
	t.Helper()
	if chars.Blank(s) != want {
		t.Errorf("Blank(%.99q) = %v", s, !want)
	}
}

// lines holds Lines against what is wanted.
func lines(t *testing.T, s, want string) {
	t.Helper()
	if got := chars.Lines(s); got != want {
		t.Errorf("Lines(%.99q) = %.99q; want %.99q", s, got, want)
	}
}

// someRight are texts of Chars.
var someRight = []string{"", "a", "a\tb\r\nc d", "\u00e9", "\u20ac", "\U0001f600", "\u0085\u00a0\u2028\ufeff", "a\u00e9\u20ac\U0001f600", "\ufffd", "\ud7ff\ue000", "\U00010000\U0010ffff", "<a b=\"c\">&amp;</a>", "\x7f\u0080\u009f"}

// P9.2

func TestBad(t *testing.T) {
	none := []string{"\x00", "\x01", "\x08", "\x0b", "\x0c", "\x0e", "\x1b", "\x1f", "\ufffe", "\uffff"} // scalars that are no Chars
	char := spans(t, charWords)
	for _, s := range someRight {
		bad(t, s, -1)
		for _, w := range append(none, wrongParts...) {
			bad(t, w+s, 0)
			bad(t, s+w, len(s))
			bad(t, s+w+"b", len(s))
			bad(t, s+w+"\u00e9", len(s))
			bad(t, s+w+w+s, len(s))
			for _, x := range append(none, wrongParts...) {
				bad(t, s+w+" "+x, len(s)) // side by side, two wrong parts may be a right one
				bad(t, s+w+x, firstBad(s+w+x, char))
			}
		}
	}
	bad(t, "\ufffd\x00", 3)
	bad(t, "\U0001f600\x00", 4)
	bad(t, "\u00e9\uffff", 2)
	bad(t, "ab\xffc", 2)
}

func TestBadOfEveryScalar(t *testing.T) {
	char := spans(t, charWords)
	for r := rune(0); r <= 0x10FFFF; r++ {
		if !utf8.ValidRune(r) {
			continue
		}
		want := 2
		if of(int(r), char) {
			want = -1
		}
		if c := string(r); chars.Bad("\u00e9"+c) != want || chars.Bad("ab"+c+"cd") != want {
			t.Fatalf("%x: %d, %d; want %d", r, chars.Bad("\u00e9"+c), chars.Bad("ab"+c+"cd"), want)
		}
	}
}

func TestBlank(t *testing.T) {
	for _, s := range []string{"", " ", "\t", "\n", "\r", "  ", " \t\r\n", "\n\r\t ", "\r\n\r\n", strings.Repeat("\n\t \r", 50000)} {
		blank(t, s, true)
		for _, not := range append([]string{"a", "0", "_", "\x00", "\b", "\v", "\f", "\x0e", "\x1f", "!", "\x7f", "\u0085", "\u00a0", "\u1680", "\u2000", "\u2009", "\u200a", "\u200b", "\u2028", "\u2029", "\u202f", "\u205f", "\u3000", "\ufeff", "\ufffd", "\u0120", "\u0109", "\U00010020", "\xa0", "\x85", "\xa0\xa0"}, wrongParts...) {
			blank(t, not, false)
			blank(t, s+not, false)
			blank(t, not+s, false)
			blank(t, s+not+s, false)
		}
	}
}

func TestBlankOfEveryScalar(t *testing.T) {
	space := spans(t, spaceWords)
	for r := rune(0); r <= 0x10FFFF; r++ {
		if c := string(r); utf8.ValidRune(r) && (chars.Blank(c) != of(int(r), space) || chars.Blank(" "+c) != of(int(r), space)) {
			t.Fatalf("%x: %v, %v", r, chars.Blank(c), chars.Blank(" "+c))
		}
	}
}

func TestTake(t *testing.T) {
	for _, s := range []string{"a", "_", "\u00e9", "\u20ac", "\U0001f600", "a1", "a-.0", "a:b", "a:", "a::", "a::b", "a:b:c", "a:1", "a:-:.", "\u00e9:\u20ac:\U0001f600", "a\u00b7\u0301\u203f", "xml:lang", "\ufffd", "a\ufffd:", "\U000effff:\u2040"} {
		takes(t, s, len(s))
		for _, end := range append([]string{" ", "\t", "\n", "\r", "=", ">", "/>", "<", "&", "'", "\"", ";", "/", "?", ",", "@", "[", "{", "!", "\x00", "\x7f", "\u00a0", "\u0085", "\u00d7", "\u037e", "\u2000", "\u2028", "\u3000", "\ue000", "\ufdd0", "\uffff", "\U000f0000", "\U0010ffff"}, wrongParts...) {
			takes(t, s+end, len(s))
			takes(t, s+end+"a", len(s))
			takes(t, s+end+":", len(s))
			takes(t, s+end+s, len(s))
			takes(t, end+s, 0)
			takes(t, end, 0)
		}
		for _, front := range []string{":", "1", "-", ".", "\u00b7", "\u0301", "\u203f", "\u2040"} {
			takes(t, front+s, 0)
			takes(t, front, 0)
			takes(t, s+front, len(s+front))
			takes(t, s+front+"=", len(s+front))
			takes(t, s+front+s, len(s+front+s))
		}
	}
	takes(t, "", 0)
	takes(t, "::", 0)
	takes(t, "a:b c", 3)
	takes(t, "a b", 1)
}

func TestTakeEveryScalar(t *testing.T) {
	first, further := spans(t, firstWords), spans(t, furtherWords)
	for r := rune(0); r <= 0x10FFFF; r++ {
		if !utf8.ValidRune(r) {
			continue
		}
		c := string(r)
		front, behind := 0, 2
		if of(int(r), first) {
			front = len(c) + 1
		}
		if of(int(r), further) || r == ':' {
			behind = len(c) + 3
		}
		if chars.Take(c+"b=") != front || chars.Take("\u00e9"+c+"b ") != behind {
			t.Fatalf("%x: %d, %d; want %d, %d", r, chars.Take(c+"b="), chars.Take("\u00e9"+c+"b "), front, behind)
		}
	}
}

func TestLines(t *testing.T) {
	for _, c := range [][2]string{
		{"", ""}, {"a", "a"}, {"a\nb", "a\nb"}, {"\n", "\n"}, {"\n\n", "\n\n"}, {" \t\v\f", " \t\v\f"},
		{"\r", "\n"}, {"a\rb", "a\nb"}, {"\ra", "\na"}, {"a\r", "a\n"}, {"\r\r", "\n\n"}, {"\r\r\r", "\n\n\n"},
		{"\r\n", "\n"}, {"a\r\nb", "a\nb"}, {"\r\na", "\na"}, {"a\r\n", "a\n"}, {"\r\n\r\n", "\n\n"},
		{"\r\r\n", "\n\n"}, {"\r\r\r\n", "\n\n\n"}, {"\r\r\n\n", "\n\n\n"}, {"\r\n\n", "\n\n"}, {"\r\n\r", "\n\n"},
		{"\n\r", "\n\n"}, {"\n\r\n", "\n\n"}, {"\n\r\r", "\n\n\n"}, {"a\n\rb", "a\n\nb"}, {"\r \n", "\n \n"}, {"\rn", "\nn"},
		{"\u0085", "\u0085"}, {"\u2028\u2029", "\u2028\u2029"}, {"\r\u0085", "\n\u0085"}, {"\u010d", "\u010d"}, {"\u0d0d", "\u0d0d"}, {"\u00e9\r\n\u20ac\r\U0001f600", "\u00e9\n\u20ac\n\U0001f600"},
		{"\xff", "\xff"}, {"\xff\r\n\xfe", "\xff\n\xfe"}, {"\x8d\x8a", "\x8d\x8a"}, {"\xe2\x82\r", "\xe2\x82\n"}, {"\r\x80\n", "\n\x80\n"}, {"\xc3\r\xa9", "\xc3\n\xa9"}, {"\xed\xa0\x80\r\n\xc0\x8d\xc0\x8a", "\xed\xa0\x80\n\xc0\x8d\xc0\x8a"}, {"\x00\r\x00\n", "\x00\n\x00\n"},
	} {
		lines(t, c[0], c[1])
		lines(t, "x"+c[0], "x"+c[1])
		lines(t, c[0]+"x", c[1]+"x")
		lines(t, "\xff"+c[0]+"\xff", "\xff"+c[1]+"\xff")
	}
	lines(t, strings.Repeat("a\r\nb\rc\n", 50000), strings.Repeat("a\nb\nc\n", 50000))
	lines(t, strings.Repeat("\r", 100000)+"\n", strings.Repeat("\n", 100000))
}

func TestLinesOfEveryByte(t *testing.T) {
	for c := range 256 {
		b := string([]byte{byte(c)})
		want := b
		if c == '\r' {
			want = "\n"
		}
		lines(t, b, want)
		lines(t, b+b, want+want)
		lines(t, b+"a", want+"a")
		if c != '\n' {
			lines(t, "\r"+b, "\n"+want)
		}
		if c != '\r' {
			lines(t, b+"\n", want+"\n")
		}
	}
}

func TestTextRows(t *testing.T) {
	sh, char := newShapes(t), spans(t, charWords)
	white := regexp.MustCompile(`\A[\t\n\r ]*\z`)
	ends := regexp.MustCompile(`\r\n?`)
	rows([]string{"a", ":", "1", " ", "\r", "\n", "=", "\u00b7", "\u20ac", "\ufffd", "\uffff", "\x00", "\xff", "\xf0\x9f"}, 5, func(s string) {
		bad(t, s, firstBad(s, char))
		takes(t, s, len(sh.take.FindString(right(s))))
		blank(t, s, white.MatchString(s))
		lines(t, s, ends.ReplaceAllLiteralString(s, "\n"))
	})
}

func TestLongTexts(t *testing.T) {
	for _, c := range []string{"a", "\u00e9", "\u20ac", "\U0001f600"} {
		long := strings.Repeat(c, 100000)
		bad(t, long, -1)
		bad(t, long+"\x00", len(long))
		bad(t, long+"\xe2\x82", len(long))
		takes(t, long, len(long))
		takes(t, long+":"+long+" ", 2*len(long)+1)
		lines(t, long, long)
		blank(t, long, false)
	}
	blank(t, strings.Repeat(" ", 100000)+"\xff", false)
	takes(t, "a"+strings.Repeat(":", 100000), 100001)
}

// P9.3

func TestLinesOfLines(t *testing.T) {
	rows([]string{"a", "\r", "\n", "\u0085", "\xff"}, 6, func(s string) {
		plain := chars.Lines(s)
		if strings.Contains(plain, "\r") {
			t.Errorf("Lines(%q) = %q", s, plain)
		}
		lines(t, plain, plain)
	})
}

func TestLinesPutTogether(t *testing.T) {
	rows([]string{"a", "\r", "\n", "\xff"}, 4, func(a string) {
		rows([]string{"b", "\r", "\n", "\u20ac"}, 3, func(b string) {
			want := chars.Lines(a) + chars.Lines(b)
			if strings.HasSuffix(a, "\r") && strings.HasPrefix(b, "\n") {
				want = chars.Lines(a) + chars.Lines(b)[1:] // they are one line's end
			}
			lines(t, a+b, want)
		})
	})
}

func FuzzAll(f *testing.F) {
	for _, s := range append(append([]string{"dc:date", "a:b:c", "a=", "\r\r\n\n", " \t"}, someRight...), wrongParts...) {
		f.Add(s)
	}
	f.Fuzz(func(t *testing.T, s string) {
		sh, char := newShapes(t), spans(t, charWords)
		ok := right(s) == s
		bad(t, s, firstBad(s, char))
		takes(t, s, len(sh.take.FindString(right(s))))
		lines(t, s, regexp.MustCompile(`\r\n?`).ReplaceAllLiteralString(s, "\n"))
		blank(t, s, regexp.MustCompile(`\A[\t\n\r ]*\z`).MatchString(s))
		if m := sh.split.FindStringSubmatch(s); ok && m != nil {
			names(t, s, m[1], m[2])
		} else {
			isNone(t, s)
		}
	})
}
