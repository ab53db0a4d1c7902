package sniff_test

import (
	"strings"
	"testing"
	"unicode/utf16"
	"unicode/utf8"

	"carding/api"
	"carding/sniff"
)

// decodes holds Decode against what is wanted.
func decodes(t *testing.T, enc int8, b, text string, wrong int) {
	t.Helper()
	if s, at := sniff.Decode(enc, b); s != text || at != wrong {
		t.Errorf("Decode(%d, %.99q) = %.99q, %d; want %.99q, %d", enc, b, s, at, text, wrong)
	}
}

// encodes holds Encode against what is wanted.
func encodes(t *testing.T, enc int8, text, b string) {
	t.Helper()
	if s, ok := sniff.Encode(enc, text); s != b || !ok {
		t.Errorf("Encode(%d, %.99q) = %.99q, %v; want %.99q", enc, text, s, ok, b)
	}
}

// refuses holds Encode against false, beside which there is nothing.
func refuses(t *testing.T, enc int8, text string) {
	t.Helper()
	if s, ok := sniff.Encode(enc, text); s != "" || ok {
		t.Errorf("Encode(%d, %.99q) = %.99q, %v; want none", enc, text, s, ok)
	}
}

// both holds Decode and Encode against a text and its bytes.
func both(t *testing.T, enc int8, text, b string) {
	t.Helper()
	decodes(t, enc, b, text, -1)
	encodes(t, enc, text, b)
}

// turned turns each two bytes about.
func turned(b string) string {
	l := []byte(b)
	for i := 0; i+1 < len(l); i += 2 {
		l[i], l[i+1] = l[i+1], l[i]
	}
	return string(l)
}

// P8.1

func TestCodeUtf8(t *testing.T) {
	for _, s := range []string{"", "a", "\x00", "\x7f", "\u0080", "\u00e9", "\u07ff", "\u0800", "\ud7ff", "\ue000", "\ufffd", "\ufffe", "\uffff", "\U00010000", "\U0010ffff", "\ufeffa", "\ufeff", "<?xml encoding='latin1'?>\u00e9", strings.Repeat("a\u00e9\u20ac\U0001f600", 5000)} {
		both(t, api.Utf8, s, s)
		both(t, api.Utf8, "a"+s+"b", "a"+s+"b")
	}
}

// wrongParts are pieces of bytes, each of them one wrong part.
var wrongParts = []string{"\x80", "\xbf", "\xc0", "\xc1", "\xc2", "\xdf", "\xe0", "\xe0\xa0", "\xe2\x82", "\xed", "\xed\x9f", "\xef\xbf", "\xf0", "\xf0\x90", "\xf0\x9f\x98", "\xf4", "\xf4\x8f\xbf", "\xf5", "\xf8", "\xfc", "\xfe", "\xff"}

func TestDecodeUtf8Wrong(t *testing.T) {
	for _, x := range wrongParts {
		decodes(t, api.Utf8, x, "\ufffd", 0)
		decodes(t, api.Utf8, x+"ab", "\ufffdab", 0)
		decodes(t, api.Utf8, "\u20ac"+x+"\u00e9", "\u20ac\ufffd\u00e9", 3)
		decodes(t, api.Utf8, "\U0001f600a"+x, "\U0001f600a\ufffd", 5)
		decodes(t, api.Utf8, "a"+x+"b"+x+"c", "a\ufffdb\ufffdc", 1)
		decodes(t, api.Utf8, "\ufffd"+x, "\ufffd\ufffd", 3)
		for _, y := range wrongParts {
			if y != "\x80" && y != "\xbf" {
				decodes(t, api.Utf8, "a"+x+y, "a\ufffd\ufffd", 1)
			}
		}
		refuses(t, api.Utf8, x)
		refuses(t, api.Utf8, x+"a")
		refuses(t, api.Utf8, "\u00e9"+x)
		refuses(t, api.Utf8, "a"+x+"b")
	}
	decodes(t, api.Utf8, "\xed\xa0\x80", "\ufffd\ufffd\ufffd", 0)
	decodes(t, api.Utf8, "a\xed\xbf\xbf", "a\ufffd\ufffd\ufffd", 1)
	decodes(t, api.Utf8, "\xc0\x80", "\ufffd\ufffd", 0)
	decodes(t, api.Utf8, "\xe0\x80\x80", "\ufffd\ufffd\ufffd", 0)
	decodes(t, api.Utf8, "\xf4\x90\x80\x80", "\ufffd\ufffd\ufffd\ufffd", 0)
	decodes(t, api.Utf8, "a\xe2\x82b", "a\ufffdb", 1)
}

// wide gives a text's bytes in UTF-16 by the library, the low one first.
func wide(s string) string {
	var b []byte
	for _, u := range utf16.Encode([]rune(s)) {
		b = append(b, byte(u), byte(u>>8))
	}
	return string(b)
}

func TestCodeUtf16(t *testing.T) {
	for _, s := range []string{"", "a", "\x00", "\u00e9", "\ud7ff", "\ue000", "\ufffd", "\ufffe", "\uffff", "\U00010000", "\U0010ffff", "\U0001f600", "\ufeff", "\ufeffa", "\ufffea", strings.Repeat("a\u00e9\u20ac\U0001f600", 5000)} {
		both(t, api.Utf16le, s, wide(s))
		both(t, api.Utf16be, s, turned(wide(s)))
	}
	both(t, api.Utf16le, "a\U0001f600", "a\x00\x3d\xd8\x00\xde")
	both(t, api.Utf16be, "a\U0001f600", "\x00a\xd8\x3d\xde\x00")
	both(t, api.Utf16le, "\ufeffa", "\xff\xfea\x00")
	both(t, api.Utf16be, "\ufeffa", "\xfe\xff\x00a")
	for _, enc := range []int8{api.Utf16le, api.Utf16be} {
		for _, x := range wrongParts {
			refuses(t, enc, x)
			refuses(t, enc, "a"+x)
			refuses(t, enc, x+"a")
		}
		refuses(t, enc, "\xed\xa0\xbd\xed\xb8\x80")
	}
}

func TestDecodeUtf16Wrong(t *testing.T) {
	for _, x := range []struct {
		b, text string
		wrong   int
	}{
		{"\x00\xd8", "\ufffd", 0}, {"\xff\xdb", "\ufffd", 0}, {"\x00\xdc", "\ufffd", 0}, {"\xff\xdf", "\ufffd", 0},
		{"\x00\xd8a\x00", "\ufffda", 0}, {"a\x00\x00\xd8", "a\ufffd", 2}, {"a\x00\x00\xd8b\x00", "a\ufffdb", 2},
		{"\x00\xdca\x00", "\ufffda", 0}, {"a\x00\x00\xdc", "a\ufffd", 2}, {"a\x00\x00\xdcb\x00", "a\ufffdb", 2},
		{"\x00\xd8\x00\xd8\x00\xdc", "\ufffd\U00010000", 0}, {"\x00\xd8\x00\xdc\x00\xdc", "\U00010000\ufffd", 4},
		{"\x00\xdc\x00\xd8", "\ufffd\ufffd", 0}, {"\xfd\xff\x00\xdc", "\ufffd\ufffd", 2},
		{"a\x00\x00\xd8b\x00\x00\xdc", "a\ufffdb\ufffd", 2},
	} {
		decodes(t, api.Utf16le, x.b, x.text, x.wrong)
		decodes(t, api.Utf16be, turned(x.b), x.text, x.wrong)
		decodes(t, api.Utf16le, x.b+"c", x.text+"\ufffd", x.wrong)
		decodes(t, api.Utf16be, turned(x.b)+"c", x.text+"\ufffd", x.wrong)
	}
	for _, enc := range []int8{api.Utf16le, api.Utf16be} {
		for c := range 256 {
			decodes(t, enc, one(c), "\ufffd", 0)
		}
	}
	decodes(t, api.Utf16le, "a\x00b", "a\ufffd", 2)
	decodes(t, api.Utf16be, "\x00ab", "a\ufffd", 2)
	decodes(t, api.Utf16le, "\x3d\xd8\x00\xde\x00", "\U0001f600\ufffd", 4)
	decodes(t, api.Utf16be, "\xd8\x3d\xde\x00\x00", "\U0001f600\ufffd", 4)
	decodes(t, api.Utf16le, "\x3d\xd8\x00", "\ufffd\ufffd", 0)
	decodes(t, api.Utf16be, "\xd8\x3d\x00", "\ufffd\ufffd", 0)
}

// chart gives the scalars of all bytes of a single byte's encoding, as chapter 4 has them.
func chart(enc int8) [256]rune {
	var l [256]rune
	for i := range l {
		l[i] = rune(i)
	}
	switch enc {
	case api.Win1252:
		copy(l[0x80:], []rune("\u20ac\u0081\u201a\u0192\u201e\u2026\u2020\u2021\u02c6\u2030\u0160\u2039\u0152\u008d\u017d\u008f\u0090\u2018\u2019\u201c\u201d\u2022\u2013\u2014\u02dc\u2122\u0161\u203a\u0153\u009d\u017e\u0178"))
	case api.Iso5:
		for i := 0xa1; i < 256; i++ {
			l[i] += 0x401 - 0xa1
		}
		l[0xad], l[0xf0], l[0xfd] = 0xad, 0x2116, 0xa7
	case api.Iso15:
		for i, r := range map[int]rune{0xa4: 0x20ac, 0xa6: 0x160, 0xa8: 0x161, 0xb4: 0x17d, 0xb8: 0x17e, 0xbc: 0x152, 0xbd: 0x153, 0xbe: 0x178} {
			l[i] = r
		}
	}
	return l
}

func TestCodeSingle(t *testing.T) {
	for _, enc := range []int8{api.Win1252, api.Iso5, api.Iso15} {
		both(t, enc, "", "")
		l := chart(enc)
		at := map[rune]int{}
		var b []byte
		for c, r := range l {
			at[r] = c
			b = append(b, byte(c))
			both(t, enc, string(r), one(c))
			both(t, enc, "a"+string(r)+"b", "a"+one(c)+"b")
		}
		both(t, enc, string(l[:]), string(b))
		both(t, enc, strings.Repeat(string(l[:]), 300), strings.Repeat(string(b), 300))
		for r := rune(0); r < 0x2200; r++ {
			if _, ok := at[r]; !ok {
				refuses(t, enc, string(r))
			}
		}
		for _, s := range []string{"\ufeff", "\ufeffa", "\ufffd", "\uffff", "\U00010000", "\U0001f600", "\U0010ffff", "\U00010041"} {
			refuses(t, enc, s)
			refuses(t, enc, "a"+s)
			refuses(t, enc, s+"a")
		}
		for _, x := range wrongParts {
			refuses(t, enc, x)
			refuses(t, enc, "a"+x)
			refuses(t, enc, x+"a")
		}
	}
	refuses(t, api.Win1252, "\u0080")
	refuses(t, api.Iso15, "\u00a4")
	refuses(t, api.Iso5, "\u00e9")
	refuses(t, api.Win1252, "\u0410")
}

func TestCodeOfNoEncoding(t *testing.T) {
	texts := []string{"", "a", "\x00", "\xff", "\xef\xbb\xbf", "\xff\xfe", "\u00e9", "<?xml encoding='utf-8'?>", strings.Repeat("a", 5000)}
	for enc := -128; enc < 128; enc++ {
		for _, s := range texts {
			if enc >= 0 && enc < 6 {
				if text, _ := sniff.Decode(int8(enc), s); text == "" && s != "" || !utf8.ValidString(text) {
					t.Errorf("Decode(%d, %q) = %q", enc, s, text)
				}
				continue
			}
			wrong := 0
			if s == "" {
				wrong = -1
			}
			decodes(t, int8(enc), s, "", wrong)
			refuses(t, int8(enc), s)
		}
	}
	if api.Encodings != 6 {
		t.Error(api.Encodings)
	}
}
