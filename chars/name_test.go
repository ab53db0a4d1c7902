package chars_test

import (
	"regexp"
	"strings"
	"testing"
	"unicode/utf8"

	"carding/chars"
)

// class gives the scalars of some words, and others, as a regular expression's class.
func class(t *testing.T, words string, others string) string {
	t.Helper()
	var b strings.Builder
	for _, s := range spans(t, words) {
		b.WriteString(string(rune(s[0])) + "-" + string(rune(s[1])))
	}
	// The hyphen as a range of its own must be told apart from one between two ends.
	return "[" + strings.ReplaceAll(b.String(), "---", `\--\-`) + others + "]"
}

// shapes are regular expressions of the chapter's words.
type shapes struct{ plain, split, take *regexp.Regexp }

func newShapes(t *testing.T) shapes {
	t.Helper()
	plain := class(t, firstWords, "") + class(t, furtherWords, "") + "*"
	return shapes{
		plain: regexp.MustCompile(`\A` + plain + `\z`),
		split: regexp.MustCompile(`\A(?:(` + plain + `):)?(` + plain + `)\z`),
		take:  regexp.MustCompile(`\A` + class(t, firstWords, "") + class(t, furtherWords, ":") + "*"),
	}
}

// right gives a text up to its first wrong byte, which a regular expression would take for U+FFFD.
func right(s string) string {
	for at := 0; at < len(s); {
		r, n := utf8.DecodeRuneInString(s[at:])
		if r == utf8.RuneError && n < 2 {
			return s[:at]
		}
		at += n
	}
	return s
}

// rows gives each text of at most n of the pieces to a function.
func rows(pieces []string, n int, each func(string)) {
	each("")
	if n == 0 {
		return
	}
	for _, p := range pieces {
		rows(pieces, n-1, func(s string) { each(p + s) })
	}
}

// wrongParts are texts that are not UTF-8.
var wrongParts = []string{
	"\x80", "\xbf", "\xc0", "\xc1", "\xf5", "\xfe", "\xff", // what begins nothing
	"\xc0\x80", "\xc1\xa1", "\xe0\x81\xa1", "\xe0\x9f\xbf", "\xf0\x80\x81\xa1", "\xf0\x8f\xbf\xbf", // overlong
	"\xed\xa0\x80", "\xed\xbf\xbf", "\xed\xa0\xbd\xed\xb8\x80", // halves of pairs
	"\xf4\x90\x80\x80", "\xf7\xbf\xbf\xbf", "\xf8\x88\x80\x80\x80", // too great
	"\xc3", "\xe2", "\xe2\x82", "\xf0", "\xf0\x9f", "\xf0\x9f\x98", // cut off
}

// names holds Plain and Split against what is wanted of a text that is a name as written.
func names(t *testing.T, s, prefix, local string) {
	t.Helper()
	if p, l, ok := chars.Split(s); p != prefix || l != local || !ok {
		t.Errorf("Split(%.99q) = %.99q, %.99q, %v; want %.99q, %.99q", s, p, l, ok, prefix, local)
	}
	if chars.Plain(s) != (prefix == "") {
		t.Errorf("Plain(%.99q) = %v", s, chars.Plain(s))
	}
}

// isNone holds Plain and Split against a text that is no name.
func isNone(t *testing.T, s string) {
	t.Helper()
	if p, l, ok := chars.Split(s); p != "" || l != "" || ok {
		t.Errorf("Split(%.99q) = %.99q, %.99q, %v; want none", s, p, l, ok)
	}
	if chars.Plain(s) {
		t.Errorf("Plain(%.99q)", s)
	}
}

// P9.1

func TestNames(t *testing.T) {
	for _, s := range []string{"a", "Z", "_", "a1", "a-", "a.", "a-b.c", "_1", "__", "rss", "xml", "\u00e9", "\u00e9\u00b7", "a\u0301", "\u0416\u0416", "a\u203f\u2040", "\u200c", "\u20ac", "\u4e00\u4e01", "\ufffd", "a\ufffd", "\ufeffa", "\U0001f600", "a\U0001f600", "\U0001f600-\u20ac.\u00e91a", "\U000effff"} {
		names(t, s, "", s)
		for _, prefix := range []string{"a", "dc", "x-1", "\u00e9", "\u20ac", "\U0001f600", "a.", "\ufffd"} {
			names(t, prefix+":"+s, prefix, s)
			names(t, s+":"+prefix, s, prefix)
		}
	}
	names(t, "dc:date", "dc", "date")
	names(t, "_:x", "_", "x")
	isNone(t, "a:b:c")
}

func TestNoNames(t *testing.T) {
	for _, s := range []string{
		"", ":", "::", ":::", "a:", ":a", "a::", "::a", "a::b", ":a:", "a:b:", ":a:b", "a:b:c", "a::b:c", "a:b:c:d",
		"1", "-", ".", "\u00b7", "\u0301", "\u203f", "1a", "-a", ".a", "\u00b7a", "\u0301a", "\u2040a",
		"1:a", "-:a", ".a:a", "\u00b7:a", "a:1", "a:-", "a:.b", "a:\u0301", "a:\u2040b", "1:1",
		" ", " a", "a ", "a b", "a\n", "\ta", "a\r:b", "a :b", "a: b", "a:b ", " a:b",
		"a,b", "a/b", "a;", "a=", "a>", "<a", "a+b", "a@b", "a[", "{a}", "a\x00", "\x00", "a\x7f", "a\u00d7", "\u00f7", "a\u037e", "a\u00a0b", "\u2000", "a\u2028", "\u3000", "a\ue000", "a\ufdd0", "a\uffff", "\ufffe", "a\U000f0000", "\U0010ffff",
	} {
		isNone(t, s)
	}
}

func TestNamesThatAreNotUtf8(t *testing.T) {
	for _, w := range wrongParts {
		for _, s := range []string{w, "a" + w, w + "a", "a" + w + "a", w + ":a", "a:" + w, "a" + w + ":a", "a:b" + w, "a" + w + "b:c", "a:b" + w + "c", w + w, "\u00e9" + w, w + "\u20ac", w + ":" + w} {
			isNone(t, s)
		}
	}
}

// TestEveryScalarInNames has each scalar at the front, in the middle and at the end of a plain name, and of both parts of another.
func TestEveryScalarInNames(t *testing.T) {
	if got, want := class(t, furtherWords, ":"), `\--\-`; strings.Count(got, want) != 1 {
		t.Fatal(got)
	}
	first, further := spans(t, firstWords), spans(t, furtherWords)
	for r := 0; r <= 0x10FFFF; r++ {
		if r == ':' || r > 0x3100 && r < 0xD700 || r > 0x10100 && r < 0xEFF00 || r > 0xF0100 && r < 0x10FF00 {
			continue // all of one kind, in the midst of a range; the colon is a rule of its own
		}
		c := string(rune(r))
		if !utf8.ValidRune(rune(r)) {
			continue
		}
		front, behind := of(r, first), of(r, further)
		for _, x := range []struct {
			s, prefix, local string
			ok               bool
		}{
			{c, "", c, front}, {c + "a", "", c + "a", front}, {"a" + c, "", "a" + c, behind}, {"a" + c + "a", "", "a" + c + "a", behind},
			{c + ":a", c, "a", front}, {"a:" + c, "a", c, front}, {c + "a:a", c + "a", "a", front}, {"a:" + c + "a", "a", c + "a", front},
			{"a" + c + ":a", "a" + c, "a", behind}, {"a:a" + c, "a", "a" + c, behind},
		} {
			if x.ok {
				names(t, x.s, x.prefix, x.local)
			} else {
				isNone(t, x.s)
			}
		}
	}
}

func TestNamesRows(t *testing.T) {
	sh := newShapes(t)
	rows([]string{"a", ":", "1", "\u00e9", "\u00b7", "\u20ac", "\U0001f600", "\ufffd", " ", "\uffff", "\xff", "\xe2\x82"}, 5, func(s string) {
		got := chars.Plain(s)
		if want := right(s) == s && sh.plain.MatchString(s); got != want {
			t.Errorf("Plain(%q) = %v", s, got)
		}
		m := sh.split.FindStringSubmatch(s)
		if right(s) != s || m == nil {
			isNone(t, s)
			return
		}
		names(t, s, m[1], m[2])
	})
}

func TestLongNames(t *testing.T) {
	for _, c := range []string{"a", "\u00e9", "\u20ac", "\U0001f600"} {
		long := strings.Repeat(c, 100000)
		names(t, long, "", long)
		names(t, long+":"+long, long, long)
		isNone(t, long+":"+long+":"+long)
		isNone(t, long+" ")
		isNone(t, long+"\xff")
		isNone(t, "1"+long)
		isNone(t, long+":")
		isNone(t, ":"+long)
	}
	isNone(t, strings.Repeat("a:", 100000)+"a")
	isNone(t, strings.Repeat(":", 100000))
	isNone(t, strings.Repeat("\x80", 100000))
}
