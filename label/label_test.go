package label_test

import (
	"slices"
	"strings"
	"testing"

	"carding/api"
	"carding/label"
)

// chart are the encodings' labels, as the chapter's table has them.
var chart = []struct {
	enc    int8
	labels string
}{
	{api.Utf8, "utf-8, utf8, unicode-1-1-utf-8, unicode11utf8, x-unicode20utf8"},
	{api.Utf16le, "utf-16, utf-16le, ucs-2, iso-10646-ucs-2, csunicode, unicode, unicodefeff"},
	{api.Utf16be, "utf-16be, unicodefffe"},
	{api.Win1252, "windows-1252, cp1252, x-cp1252, ascii, us-ascii, ansi_x3.4-1968, iso-8859-1, iso8859-1, iso_8859-1, iso88591, latin1, l1, cp819, ibm819, csisolatin1"},
	{api.Iso5, "iso-8859-5, iso8859-5, iso_8859-5, iso88595, cyrillic, csisolatincyrillic"},
	{api.Iso15, "iso-8859-15, iso8859-15, iso_8859-15, iso885915, l9, csisolatin9"},
}

// white are the five bytes of white space.
var white = []string{"\t", "\n", "\f", "\r", " "}

// listOf gives the labels of a row of the chart.
func listOf(labels string) []string { return strings.Split(labels, ", ") }

// encodings gives the encoding of each label.
func encodings() map[string]int8 {
	m := map[string]int8{}
	for _, x := range chart {
		for _, s := range listOf(x.labels) {
			m[s] = x.enc
		}
	}
	return m
}

// others are all numbers that an int8 can be and that are no encoding's.
func others() []int8 {
	var l []int8
	for n := -128; n < 128; n++ {
		if n < 0 || n > 5 {
			l = append(l, int8(n))
		}
	}
	return l
}

// mixed gives a text with every second letter great, beginning with the first or with the second.
func mixed(s string, first int) string {
	b := []byte(s)
	for i := first; i < len(b); i += 2 {
		b[i] = strings.ToUpper(s)[i]
	}
	return string(b)
}

// ways are the ways to write a label's letters.
func ways(s string) []string {
	return []string{s, strings.ToUpper(s), mixed(s, 0), mixed(s, 1), strings.ToUpper(s[:1]) + s[1:], s[:len(s)-1] + strings.ToUpper(s[len(s)-1:])}
}

// lowered is Lower by the chapter's words: each of the 26 letters by itself.
func lowered(s string) string {
	for i, c := range "ABCDEFGHIJKLMNOPQRSTUVWXYZ" {
		s = strings.ReplaceAll(s, string(c), "abcdefghijklmnopqrstuvwxyz"[i:i+1])
	}
	return s
}

// trimmed is Trim by the chapter's words: one piece of white space after the other.
func trimmed(s string) string {
	for s != "" && slices.Contains(white, s[:1]) {
		s = s[1:]
	}
	for s != "" && slices.Contains(white, s[len(s)-1:]) {
		s = s[:len(s)-1]
	}
	return s
}

// names holds Of against an encoding.
func names(t *testing.T, s string, want int8) {
	t.Helper()
	if enc, ok := label.Of(s); enc != want || !ok {
		t.Errorf("Of(%q) = %d, %v; want %d", s, enc, ok, want)
	}
}

// isNone holds Of against no encoding.
func isNone(t *testing.T, s string) {
	t.Helper()
	if enc, ok := label.Of(s); enc != 0 || ok {
		t.Errorf("Of(%q) = %d, %v; want none", s, enc, ok)
	}
}

// trims holds Trim against what is wanted.
func trims(t *testing.T, s, want string) {
	t.Helper()
	if got := label.Trim(s); got != want {
		t.Errorf("Trim(%q) = %q; want %q", s, got, want)
	}
}

// lowers holds Lower against what is wanted.
func lowers(t *testing.T, s, want string) {
	t.Helper()
	if got := label.Lower(s); got != want {
		t.Errorf("Lower(%q) = %q; want %q", s, got, want)
	}
}

// P5.1

func TestOfEveryLabel(t *testing.T) {
	for s, enc := range encodings() {
		for _, one := range ways(s) {
			names(t, one, enc)
		}
	}
}

func TestOfExamples(t *testing.T) {
	names(t, " Latin1", api.Win1252)
	isNone(t, "utf-7")
}

func TestName(t *testing.T) {
	for enc, want := range map[int8]string{
		api.Utf8: "utf-8", api.Utf16le: "utf-16", api.Utf16be: "utf-16be",
		api.Win1252: "windows-1252", api.Iso5: "iso-8859-5", api.Iso15: "iso-8859-15",
	} {
		if got := label.Name(enc); got != want {
			t.Errorf("Name(%d) = %q; want %q", enc, got, want)
		}
	}
}

func TestAll(t *testing.T) {
	n := 0
	for _, x := range chart {
		got := label.All(x.enc)
		if !slices.Equal(got, listOf(x.labels)) {
			t.Errorf("All(%d) = %q; want %s", x.enc, got, x.labels)
		}
		n += len(got)
	}
	if n != 41 {
		t.Error(n, "labels")
	}
}

// What is done to an answer is not seen in the next, nor in what the other calls answer.
func TestAllIsNew(t *testing.T) {
	for _, x := range chart {
		l, other := label.All(x.enc), label.All(x.enc)
		for i := range l {
			l[i] = "utf-7"
		}
		_ = append(l[:0], "l2", "l3")
		spare := l[:cap(l)]
		for i := range spare {
			spare[i] = "l4"
		}
		want := listOf(x.labels)
		if !slices.Equal(other, want) || !slices.Equal(label.All(x.enc), want) {
			t.Errorf("All(%d) is not new", x.enc)
		}
		for _, s := range want {
			names(t, s, x.enc)
		}
		if label.Name(x.enc) != want[0] {
			t.Error(x.enc, label.Name(x.enc))
		}
	}
	isNone(t, "utf-7")
	isNone(t, "l4")
}

func TestOtherEncodings(t *testing.T) {
	l := others()
	if len(l) != 250 || !slices.Contains(l, -128) || !slices.Contains(l, -1) || !slices.Contains(l, api.Encodings) || !slices.Contains(l, 127) {
		t.Fatal(l)
	}
	for _, enc := range l {
		if s := label.Name(enc); s != "" {
			t.Errorf("Name(%d) = %q", enc, s)
		}
		if all := label.All(enc); len(all) != 0 {
			t.Errorf("All(%d) = %q", enc, all)
		}
	}
}

func TestOfNone(t *testing.T) {
	for _, s := range []string{
		"", " ", "\t", "\t\n\f\r ", "  \t\t  ", "-", "_", "8", "utf", "x", "\x00",
		"utf-7", "utf-32", "utf_8", "utf.8", "utf--8", "-utf-8", "utf-8-", "utf-80", "utf", "tf-8", "utf-", "utf88", "u-tf8", "utf-9", "etf-8",
		"utf_16", "utf16", "utf16le", "utf-16el", "utf-16l", "utf-1", "utf-16bee", "utf-16b", "ucs2", "ucs_2", "ucs-4", "iso-10646-ucs2", "iso_10646-ucs-2", "cs-unicode", "csunicodes", "unicodefeffe", "unicodefef", "unicodeffff", "unicodefff",
		"windows1252", "windows_1252", "windows-1251", "windows-125", "windows-12522", "window-1252", "cp-1252", "cp1251", "x_cp1252", "xcp1252", "asci", "asciii", "usascii", "us_ascii", "ansi-x3.4-1968", "ansi_x3.4_1968", "ansi_x34-1968", "ansi_x3.4-1969",
		"iso-8859", "iso-8859-", "iso-8859-2", "iso-8859_1", "iso_8859_1", "iso8859_1", "iso-88591", "iso_88591", "iso-8859-11", "iso-8859-14", "iso-8859-16", "iso-8859-51", "iso-8859-155", "iso8859", "iso885914", "iso-88595", "iso 8859-5",
		"latin", "latin2", "latin9", "latin-1", "latin11", "l", "l2", "l5", "l15", "l10", "l19", "l-1", "cp818", "cp8190", "ibm-819", "ibm850", "csisolatin", "csisolatin2", "csisolatin15", "cyrilli", "cyrillics", "kyrillic", "csisolatincyrilli", "csisolatin-cyrillic",
		"utf-8, utf8", "utf-8,", "utf-8;", "\"utf-8\"", "'utf-8'", "utf-8 utf-8", "charset=utf-8", "utf-8utf-8", "utf-8 utf8", "l1l1", "l1 l9", "l1\nl1",
		"shift_jis", "euc-jp", "koi8-r", "gb18030", "big5",
	} {
		isNone(t, s)
		isNone(t, strings.ToUpper(s))
		isNone(t, " "+s+"\t\r\n")
	}
}

// Each label, with any byte left out, put in, or put in another's place, names what the chart has, mostly none.
func TestOfNearLabels(t *testing.T) {
	want := encodings()
	near := func(s string) {
		if enc, has := want[trimmed(lowered(s))]; has {
			names(t, s, enc)
		} else {
			isNone(t, s)
		}
	}
	for s := range want {
		for i := range len(s) + 1 {
			for c := range 256 {
				one := string([]byte{byte(c)})
				near(s[:i] + one + s[i:])
				if i < len(s) {
					near(s[:i] + one + s[i+1:])
				}
			}
			if i < len(s) {
				near(s[:i] + s[i+1:])
				near(s[:i])
				near(s[i:])
				isNone(t, s[:i]+strings.Repeat("\x00", len(s)-i))
			}
			for _, w := range white { // white space within a label stays
				if i > 0 && i < len(s) {
					isNone(t, s[:i]+w+s[i:])
					isNone(t, s[:i]+w+w+s[i:])
				}
			}
		}
	}
}

// All texts of up to two bytes: l1 and l9 alone are labels.
func TestOfShortTexts(t *testing.T) {
	for a := range 256 {
		isNone(t, string([]byte{byte(a)}))
		for b := range 256 {
			switch s := string([]byte{byte(a), byte(b)}); s {
			case "l1", "L1":
				names(t, s, api.Win1252)
			case "l9", "L9":
				names(t, s, api.Iso15)
			default:
				isNone(t, s)
			}
		}
	}
}

// notWhite look like white space and are none of the five.
var notWhite = []string{
	"\x00", "\x01", "\x07", "\x08", "\x0b", "\x0e", "\x0f", "\x1b", "\x1c", "\x1d", "\x1e", "\x1f", "!", "\x7f", "\x80", "\x85", "\xa0", "\x89", "\x8a", "\x8c", "\x8d", "\xff",
	"\u0085", "\u00a0", "\u1680", "\u2000", "\u2003", "\u2007", "\u200a", "\u200b", "\u2028", "\u2029", "\u202f", "\u205f", "\u3000", "\ufeff", "\ufffd", "\U00010009", "\u0120", "\u0109",
	"-", "_", ",", ";", "\"", "'", "=", "%20", "&#32;",
}

func TestOfNotWhite(t *testing.T) {
	for _, x := range notWhite {
		isNone(t, x)
		for s := range encodings() {
			isNone(t, x+s)
			isNone(t, s+x)
			isNone(t, " "+x+s)
			isNone(t, s+x+"\n")
			isNone(t, x+" "+s)
			isNone(t, s+"\t"+x)
		}
	}
}

// Letters beyond ASCII that other rules of case would turn, and bytes that are not UTF-8.
func TestOfOtherLetters(t *testing.T) {
	for _, s := range []string{
		"un\u0130code", "UN\u0130CODE", "un\u0131code", "a\u017fcii", "u\u017f-ascii", "\u017ftf-8", "\u212aoi8", "ut\uff46-8", "\u00dcTF-8", "utf\u20108", "utf\u20138", "utf\u22128",
		"asci\u0130", "i\u017fo-8859-1", "cyr\u0131llic", "\uff2c1", "l\uff11", "l\u00b9", "utf-\xc3\x89", "\xc3\x89utf-8", "utf-8\xff", "\xe2\x84utf-8", "utf\x80-8", "\xed\xa0\x80l1", "l\xc01", "\xcc1", "\xec1", "l\xb1",
	} {
		isNone(t, s)
		isNone(t, " "+s+" ")
	}
	for s := range encodings() { // the bytes that differ from a label's in the bits of case, or in the uppermost, alone
		for i := range len(s) {
			for _, bits := range []byte{0x20, 0x40, 0x80, 0xA0} {
				b := []byte(s)
				b[i] ^= bits
				if bits != 0x20 || s[i] < 'a' {
					isNone(t, string(b))
				}
			}
		}
	}
}

func TestOfLongTexts(t *testing.T) {
	const n = 1 << 20
	isNone(t, strings.Repeat("utf-8", n))
	isNone(t, strings.Repeat("A", n))
	isNone(t, strings.Repeat(" \t\n\f\r", n))
	isNone(t, "utf-8"+strings.Repeat(" ", n)+"utf-8")
	names(t, strings.Repeat(" \r\n", n)+"Utf-16BE"+strings.Repeat("\t\f", n), api.Utf16be)
}

// P5.2

func TestTrim(t *testing.T) {
	for _, x := range [][2]string{
		{"", ""}, {" ", ""}, {"  ", ""}, {"\t", ""}, {"\n", ""}, {"\f", ""}, {"\r", ""}, {"\t\n\f\r ", ""}, {" \r\f\n\t", ""}, {"\r\n\r\n", ""},
		{"a", "a"}, {" a", "a"}, {"a ", "a"}, {" a ", "a"}, {"  a", "a"}, {"a  ", "a"}, {"\r\n\t a b \f", "a b"}, {"a b", "a b"}, {"a\t\n\f\r b", "a\t\n\f\r b"}, {" a  b ", "a  b"}, {"\na\n\nb\n", "a\n\nb"},
		{"ab", "ab"}, {" Ab\t", "Ab"}, {"\x00 a", "\x00 a"}, {"a \x00", "a \x00"}, {" \x00 ", "\x00"}, {"\va\v", "\va\v"}, {" \v a \v ", "\v a \v"}, {"é ", "é"}, {" \xc3", "\xc3"}, {"\xff\n", "\xff"}, {"\x80 \x80", "\x80 \x80"},
	} {
		trims(t, x[0], x[1])
	}
}

// Every byte by itself, and at each end: just five are cut off.
func TestTrimEveryByte(t *testing.T) {
	for c := range 256 {
		s := string([]byte{byte(c)})
		if slices.Contains(white, s) {
			trims(t, s, "")
			trims(t, s+"a", "a")
			trims(t, "a"+s, "a")
			trims(t, s+s+"a"+s+s, "a")
			trims(t, "a"+s+"b", "a"+s+"b")
			continue
		}
		for _, one := range []string{s, s + "a", "a" + s, s + "a" + s, s + " a", "a\n" + s} {
			trims(t, one, one)
			trims(t, " "+one+"\t", one)
		}
	}
	for _, x := range notWhite {
		trims(t, x, x)
		trims(t, " "+x+"\r\n", x)
		trims(t, x+" a\n"+x, x+" a\n"+x)
	}
}

// rows calls f with all rows of up to n pieces.
func rows(pieces []string, n int, f func(s string)) {
	var more func(s string, n int)
	more = func(s string, n int) {
		f(s)
		if n == 0 {
			return
		}
		for _, p := range pieces {
			more(s+p, n-1)
		}
	}
	more("", n)
}

func TestTrimRows(t *testing.T) {
	rows([]string{"\t", "\n", "\f", "\r", " ", "a", "\v", "\xa0"}, 5, func(s string) {
		trims(t, s, trimmed(s))
	})
}

func TestLower(t *testing.T) {
	lowers(t, "", "")
	lowers(t, "AbZ\u00c9[@", "abz\u00c9[@")
	lowers(t, "ABCDEFGHIJKLMNOPQRSTUVWXYZ", "abcdefghijklmnopqrstuvwxyz")
	lowers(t, "@AZ[`az{", "@az[`az{")
	lowers(t, " UTF-8\n", " utf-8\n")
	lowers(t, "ANSI_X3.4-1968", "ansi_x3.4-1968")
	for _, s := range []string{
		"abcdefghijklmnopqrstuvwxyz", "0123456789", "@[`{", "\\]^_|}~", "\x00\x1f\x7f", "É", "\xc3\x89", "ÀÖØÞ", "\u0130", "\u0131", "\u017f", "\u212a", "\u2126", "\u1e9e", "ΑΣΩ", "ЖЯ", "\uff21\uff3a", "\U00010400",
		"\xc1\xda\xc9", "\x80\xff", "\xe0\xc0", "\xed\xa0\x80", "\xf5", "\xc3",
	} {
		lowers(t, s, s)
		lowers(t, "A"+s+"Z", "a"+s+"z")
	}
}

// Every byte by itself, ahead of others and behind them: just 26 turn.
func TestLowerEveryByte(t *testing.T) {
	turned := 0
	for c := range 256 {
		want := byte(c)
		if c >= 65 && c <= 90 {
			want = byte(c + 32)
			turned++
		}
		s, w := string([]byte{byte(c)}), string([]byte{want})
		lowers(t, s, w)
		lowers(t, "Q"+s+"q"+s, "q"+w+"q"+w)
		lowers(t, "é"+s+"\xff"+s, "é"+w+"\xff"+w)
	}
	if turned != 26 {
		t.Error(turned)
	}
}

func TestLowerRows(t *testing.T) {
	rows([]string{"@", "A", "Z", "[", "`", "a", "{", "É", "\xc9", " "}, 4, func(s string) {
		lowers(t, s, lowered(s))
	})
}

func TestLongTexts(t *testing.T) {
	const n = 1 << 20
	lowers(t, strings.Repeat("@AZ[É\xc9", n), strings.Repeat("@az[É\xc9", n))
	within := "a" + strings.Repeat(" \n", n) + "B"
	trims(t, within, within)
	trims(t, strings.Repeat("\t\r", n)+within+strings.Repeat("\f ", n), within)
	trims(t, strings.Repeat("\t\n\f\r ", n), "")
}

// Trim leaves letters, Lower leaves white space as it is.
func TestOneDoesNotTheOther(t *testing.T) {
	trims(t, " A ", "A")
	lowers(t, " A ", " a ")
}

// P5.3

func TestEachLabelOnce(t *testing.T) {
	seen := map[string]int8{}
	for n := -128; n < 128; n++ {
		for _, s := range label.All(int8(n)) {
			if enc, twice := seen[s]; twice {
				t.Errorf("%s is of %d and of %d", s, enc, n)
			}
			seen[s] = int8(n)
			if label.Lower(label.Trim(s)) != s {
				t.Errorf("%q is not plain", s)
			}
		}
	}
	if len(seen) != 41 {
		t.Error(len(seen))
	}
}

func TestOfName(t *testing.T) {
	for _, x := range chart {
		names(t, label.Name(x.enc), x.enc)
		if label.Name(x.enc) != label.All(x.enc)[0] {
			t.Error(x.enc, label.Name(x.enc))
		}
	}
}

// Each label, in each way of writing it, with white space ahead, behind and on both ends.
func TestHoweverWritten(t *testing.T) {
	about := append([]string{"", "\t\n\f\r ", " \r\f\n\t", "  ", "\r\n\r\n", "\f\f\t"}, white...)
	for s, enc := range encodings() {
		for _, one := range ways(s) {
			for _, w := range about {
				for _, v := range about {
					names(t, w+one+v, enc)
				}
			}
		}
	}
}

// One call's answer hangs on no other's.
func TestAgain(t *testing.T) {
	for range 2 {
		names(t, "L9", api.Iso15)
		isNone(t, "L8")
		names(t, "UTF8\n", api.Utf8)
	}
}

func FuzzAll(f *testing.F) {
	for _, x := range chart {
		for _, s := range listOf(x.labels) {
			f.Add(x.enc, s)
		}
	}
	f.Add(int8(-1), " \v\r\nUTF-8\t\f ")
	f.Fuzz(func(t *testing.T, enc int8, s string) {
		trims(t, s, trimmed(s))
		lowers(t, s, lowered(s))
		if want, has := encodings()[trimmed(lowered(s))]; has {
			names(t, s, want)
		} else {
			isNone(t, s)
		}
		var want []string
		for _, x := range chart {
			if x.enc == enc {
				want = listOf(x.labels)
			}
		}
		if !slices.Equal(label.All(enc), want) || label.Name(enc) != strings.Join(want[:min(1, len(want))], "") {
			t.Errorf("%d: %q, %q", enc, label.All(enc), label.Name(enc))
		}
	})
}
