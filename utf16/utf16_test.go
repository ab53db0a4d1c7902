package utf16_test

import (
	"slices"
	"strings"
	"testing"
	lib "unicode/utf16"
	"unicode/utf8"

	"carding/api"
	"carding/utf16"
)

// orders are both orders of bytes: is the high one first?
var orders = []bool{false, true}

// bytesOf gives the bytes of units.
func bytesOf(units []uint16, big bool) string {
	var b []byte
	for _, u := range units {
		if big {
			b = append(b, byte(u/256), byte(u%256))
		} else {
			b = append(b, byte(u%256), byte(u/256))
		}
	}
	return string(b)
}

// turned gives bytes, each two of them turned about.
func turned(b string) string {
	l := []byte(b)
	for i := 0; i+1 < len(l); i += 2 {
		l[i], l[i+1] = l[i+1], l[i]
	}
	return string(l)
}

// u makes the writing of units shorter.
func u(units ...uint16) []uint16 { return units }

// decodes holds Decode and Valid against what is wanted.
func decodes(t *testing.T, b string, big bool, text string, bad []int) {
	t.Helper()
	s, l := utf16.Decode(b, big)
	if s != text || !slices.Equal(l, bad) {
		t.Errorf("Decode(% x, %v) = %q, %v; want %q, %v", b, big, s, l, text, bad)
	}
	if utf16.Valid(b, big) != (len(bad) == 0) {
		t.Errorf("Valid(% x, %v) = %v", b, big, len(bad) != 0)
	}
}

// encodes holds Encode and Units against what is wanted.
func encodes(t *testing.T, text string, units []uint16) {
	t.Helper()
	for _, big := range orders {
		b, e := utf16.Encode(text, big)
		if want := bytesOf(units, big); b != want || e != api.OK {
			t.Errorf("Encode(%q, %v) = % x, %v; want % x", text, big, b, e, want)
		}
	}
	if n := utf16.Units(text); n != len(units) {
		t.Errorf("Units(%q) = %d; want %d", text, n, len(units))
	}
}

// right are texts and their units.
var right = []struct {
	text  string
	units []uint16
}{
	{"", nil},
	{"\x00", u(0)}, {"\x01", u(1)}, {"a", u('a')}, {"\x7f", u(0x7F)}, {"\u0080", u(0x80)}, {"\u00ff", u(0xFF)}, {"\u0100", u(0x100)},
	{"\u07ff", u(0x7FF)}, {"\u0800", u(0x800)}, {"\u20ac", u(0x20AC)},
	{"\ud7fe", u(0xD7FE)}, {"\ud7ff", u(0xD7FF)}, {"\ue000", u(0xE000)}, {"\ue001", u(0xE001)},
	{"\ufeff", u(0xFEFF)}, {"\ufeffa", u(0xFEFF, 'a')}, {"\ufffe", u(0xFFFE)}, {"\ufffd", u(0xFFFD)}, {"\uffff", u(0xFFFF)}, // a mark is a scalar here, FFFD no fault
	{"\U00010000", u(0xD800, 0xDC00)}, {"\U00010001", u(0xD800, 0xDC01)}, {"\U000103fe", u(0xD800, 0xDFFE)}, {"\U000103ff", u(0xD800, 0xDFFF)}, {"\U00010400", u(0xD801, 0xDC00)},
	{"\U0001f600", u(0xD83D, 0xDE00)}, {"\U0001ffff", u(0xD83F, 0xDFFF)}, {"\U00020000", u(0xD840, 0xDC00)},
	{"\U000fffff", u(0xDBBF, 0xDFFF)}, {"\U00100000", u(0xDBC0, 0xDC00)}, {"\U0010fc00", u(0xDBFF, 0xDC00)}, {"\U0010fffe", u(0xDBFF, 0xDFFE)}, {"\U0010ffff", u(0xDBFF, 0xDFFF)},
	{"\ud7ff\ue000", u(0xD7FF, 0xE000)}, {"\uffff\U00010000", u(0xFFFF, 0xD800, 0xDC00)}, {"\U0010ffff\x00", u(0xDBFF, 0xDFFF, 0)},
	{"\U0001f600\U0001f600", u(0xD83D, 0xDE00, 0xD83D, 0xDE00)},
	{"a\u00e9\u20ac\U0001f600\r\n", u('a', 0xE9, 0x20AC, 0xD83D, 0xDE00, '\r', '\n')},
	{"e\u0301", u('e', 0x301)},
}

// P3.1

func TestDecodeRight(t *testing.T) {
	for _, x := range right {
		for _, big := range orders {
			decodes(t, bytesOf(x.units, big), big, x.text, nil)
		}
	}
}

func TestDecodeOneUnit(t *testing.T) {
	for n := range 0x10000 {
		text, bad := string(rune(n)), []int(nil)
		if n >= 0xD800 && n <= 0xDFFF {
			text, bad = "\ufffd", []int{0}
		}
		for _, big := range orders {
			decodes(t, bytesOf(u(uint16(n)), big), big, text, bad)
		}
	}
}

func TestDecodeWrong(t *testing.T) {
	for _, x := range []struct {
		units []uint16
		text  string
		bad   []int
	}{
		// edges of the halves, by themselves
		{u(0xD7FF), "\ud7ff", nil}, {u(0xD800), "\ufffd", []int{0}}, {u(0xD801), "\ufffd", []int{0}}, {u(0xDBFE), "\ufffd", []int{0}}, {u(0xDBFF), "\ufffd", []int{0}},
		{u(0xDC00), "\ufffd", []int{0}}, {u(0xDC01), "\ufffd", []int{0}}, {u(0xDFFE), "\ufffd", []int{0}}, {u(0xDFFF), "\ufffd", []int{0}}, {u(0xE000), "\ue000", nil},
		// a high one ahead of another, of one that is neither, at the end
		{u(0xD83D, 0xD83D), "\ufffd\ufffd", []int{0, 2}}, {u(0xD800, 0xDBFF), "\ufffd\ufffd", []int{0, 2}}, {u(0xDBFF, 0xD800), "\ufffd\ufffd", []int{0, 2}},
		{u(0xD83D, 'a'), "\ufffda", []int{0}}, {u(0xD83D, 0), "\ufffd\x00", []int{0}}, {u(0xD83D, 0xD7FF), "\ufffd\ud7ff", []int{0}}, {u(0xD83D, 0xE000), "\ufffd\ue000", []int{0}}, {u(0xD83D, 0xFFFF), "\ufffd\uffff", []int{0}},
		{u('a', 0xD83D), "a\ufffd", []int{2}}, {u(0xD83D, 0xDE00, 0xDBFF), "\U0001f600\ufffd", []int{4}},
		// a high one ahead of another that is a scalar's
		{u(0xD83D, 0xD83D, 0xDE00), "\ufffd\U0001f600", []int{0}}, {u(0xDBFF, 0xD800, 0xDC00), "\ufffd\U00010000", []int{0}}, {u(0xD83D, 0xD83D, 0xD83D, 0xDE00, 0xDE00), "\ufffd\ufffd\U0001f600\ufffd", []int{0, 2, 8}},
		// a low one at the front, behind another, behind one that is neither, behind a scalar's
		{u(0xDE00), "\ufffd", []int{0}}, {u(0xDE00, 'a'), "\ufffda", []int{0}}, {u(0xDE00, 0xDE00), "\ufffd\ufffd", []int{0, 2}}, {u('a', 0xDC00), "a\ufffd", []int{2}}, {u(0xD7FF, 0xDC00), "\ud7ff\ufffd", []int{2}}, {u(0xE000, 0xDFFF), "\ue000\ufffd", []int{2}},
		{u(0xD83D, 0xDE00, 0xDE00), "\U0001f600\ufffd", []int{4}}, {u(0xDE00, 0xD83D), "\ufffd\ufffd", []int{0, 2}}, {u(0xDE00, 0xD83D, 0xDE00), "\ufffd\U0001f600", []int{0}}, {u(0xDE00, 0xD83D, 'a'), "\ufffd\ufffda", []int{0, 2}},
		// some of them, between others
		{u('a', 0xD800, 'b', 0xDC00, 'c', 0xD83D, 0xDE00, 0xDBFF), "a\ufffdb\ufffdc\U0001f600\ufffd", []int{2, 6, 14}},
		{u(0xFFFD, 0xD800, 0xFFFD), "\ufffd\ufffd\ufffd", []int{2}},
	} {
		for _, big := range orders {
			decodes(t, bytesOf(x.units, big), big, x.text, x.bad)
		}
	}
}

func TestDecodeSingleByte(t *testing.T) {
	for c := range 256 {
		for _, big := range orders {
			one := string([]byte{byte(c)})
			decodes(t, one, big, "\ufffd", []int{0})
			decodes(t, bytesOf(u('a'), big)+one, big, "a\ufffd", []int{2})
			decodes(t, bytesOf(u('a', 0xD83D, 0xDE00), big)+one, big, "a\U0001f600\ufffd", []int{6})
			decodes(t, bytesOf(u('a', 0xD83D), big)+one, big, "a\ufffd\ufffd", []int{2, 4}) // also where it would begin a low one
			decodes(t, bytesOf(u(0xDE00), big)+one, big, "\ufffd\ufffd", []int{0, 2})
		}
	}
}

func TestDecodeNothing(t *testing.T) {
	for _, big := range orders {
		decodes(t, "", big, "", nil)
	}
}

func TestDecodeExamples(t *testing.T) {
	decodes(t, "\x3d\xd8\x00\xde", false, "\U0001f600", nil)
	decodes(t, "\x3d\xd8\x41\x00", false, "\ufffdA", []int{0})
	decodes(t, "\xd8\x3d\xde\x00", true, "\U0001f600", nil)
	decodes(t, "\xd8\x3d\x00\x41", true, "\ufffdA", []int{0})
	decodes(t, "\x3d\xd8\x00\xde", true, "\u3dd8\u00de", nil) // the other order's units
	decodes(t, "\x00\xd8\x00\xdc", true, "\u00d8\u00dc", nil)
}

// wrongPlaces gives the places of wrong units, and of a single byte, as the chapter's words tell them.
func wrongPlaces(units []uint16, single bool) []int {
	var l []int
	high := func(i int) bool { return i >= 0 && i < len(units) && units[i] >= 0xD800 && units[i] <= 0xDBFF }
	low := func(i int) bool { return i >= 0 && i < len(units) && units[i] >= 0xDC00 && units[i] <= 0xDFFF }
	for i := range units {
		if high(i) && !low(i+1) || low(i) && !high(i-1) {
			l = append(l, 2*i)
		}
	}
	if single {
		l = append(l, 2*len(units))
	}
	return l
}

// holds holds all calls on units against the chapter's words and the library.
func holds(t *testing.T, units []uint16) {
	t.Helper()
	text := string(lib.Decode(units))
	for _, big := range orders {
		b := bytesOf(units, big)
		bad := wrongPlaces(units, false)
		decodes(t, b, big, text, bad)
		decodes(t, b+"\xd8", big, text+"\ufffd", wrongPlaces(units, true))
		if len(bad) == 0 {
			encodes(t, text, units)
		}
	}
}

func TestAllShortRowsOfEdges(t *testing.T) {
	edges := u(0, 'a', 0xD7FF, 0xD800, 0xDBFF, 0xDC00, 0xDFFF, 0xE000, 0xFFFF)
	var row func(units []uint16)
	row = func(units []uint16) {
		holds(t, units)
		if len(units) < 5 {
			for _, x := range edges {
				row(append(units, x))
			}
		}
	}
	row(make([]uint16, 0, 5))
}

func TestAllPairs(t *testing.T) {
	for high := 0xD700; high < 0xE100; high += 1 {
		for _, low := range []int{0xDBFF, 0xDC00, 0xDC01, 0xDD55, 0xDFFE, 0xDFFF, 0xE000} {
			holds(t, u(uint16(high), uint16(low)))
		}
	}
	for low := 0xD700; low < 0xE100; low += 1 {
		for _, high := range []int{0xD7FF, 0xD800, 0xD801, 0xD955, 0xDBFE, 0xDBFF, 0xDC00} {
			holds(t, u(uint16(high), uint16(low)))
		}
	}
}

// P3.2

func TestEncodeRight(t *testing.T) {
	for _, x := range right {
		encodes(t, x.text, x.units)
		encodes(t, x.text+"a", append(slices.Clone(x.units), 'a'))
		encodes(t, "\U0001f600"+x.text, append(u(0xD83D, 0xDE00), x.units...))
	}
}

func TestEncodeOrder(t *testing.T) {
	for text, want := range map[string][2]string{
		"a":          {"a\x00", "\x00a"},
		"\u20ac":     {"\xac\x20", "\x20\xac"},
		"\U0001f600": {"\x3d\xd8\x00\xde", "\xd8\x3d\xde\x00"},
	} {
		little, _ := utf16.Encode(text, false)
		big, _ := utf16.Encode(text, true)
		if little != want[0] || big != want[1] {
			t.Errorf("%q: % x, % x", text, little, big)
		}
	}
}

func TestEncodeWrong(t *testing.T) {
	for _, wrong := range []string{
		"\x80", "\xbf", "\xc0", "\xc1", "\xf5", "\xfe", "\xff", // bytes that begin nothing
		"\xed\xa0\x80", "\xed\xaf\xbf", "\xed\xb0\x80", "\xed\xbf\xbf", "\xed\xa0\xbd\xed\xb8\x80", // halves of pairs, a pair of them, too
		"\xc0\x80", "\xc1\xbf", "\xe0\x80\x80", "\xe0\x9f\xbf", "\xf0\x80\x80\x80", "\xf0\x8f\xbf\xbf", // overlong
		"\xf4\x90\x80\x80", "\xf7\xbf\xbf\xbf", "\xf8\x88\x80\x80\x80", // too great
		"\xc2", "\xe2\x82", "\xf0\x9f\x98", "\xf0\x9f", "\xf4\x8f\xbf", // cut off
		"\x3d\xd8\x00\xde", "\xff\xfea\x00", // units
	} {
		for _, text := range []string{wrong, "a" + wrong, wrong + "a", "a\u00e9\u20ac\U0001f600" + wrong, wrong + "a\u00e9\u20ac\U0001f600", wrong + wrong} {
			for _, big := range orders {
				if b, e := utf16.Encode(text, big); b != "" || e != api.ErrCode {
					t.Errorf("Encode(%q, %v) = % x, %v", text, big, b, e)
				}
			}
			if n := utf16.Units(text); n != 0 {
				t.Errorf("Units(%q) = %d", text, n)
			}
		}
	}
}

// P3.3

func TestEveryScalarBack(t *testing.T) {
	var all strings.Builder
	units := 0
	for r := rune(0); r <= 0x10FFFF; r++ {
		if r >= 0xD800 && r <= 0xDFFF {
			continue
		}
		text := string(r)
		all.WriteString(text)
		want := lib.Encode([]rune{r})
		units += len(want)
		if n := utf16.Units(text); n != len(want) {
			t.Fatalf("%x: %d units", r, n)
		}
		for _, big := range orders {
			b, e := utf16.Encode(text, big)
			back, bad := utf16.Decode(b, big)
			if b != bytesOf(want, big) || e != api.OK || back != text || len(bad) != 0 || !utf16.Valid(b, big) {
				t.Fatalf("%x, %v: % x, %v; back: %q, %v", r, big, b, e, back, bad)
			}
		}
	}
	for _, big := range orders {
		b, e := utf16.Encode(all.String(), big)
		text, bad := utf16.Decode(b, big)
		if e != api.OK || text != all.String() || len(bad) != 0 || len(b) != 2*units || utf16.Units(text) != units {
			t.Error("all scalars:", big, e, len(b), len(bad))
		}
	}
}

func TestTurning(t *testing.T) {
	for _, b := range []string{"", "a", "a\x00", "ab\x00", "\x3d\xd8\x00\xde", "\x3d\xd8\x3d\xd8\x00\xde\x00\xde", "\x3d\xd8\x00", "\xd8\xd8\xdc\xdc\xdc\xdc", "\xff\xfe\xfe\xff", "a\x00\xe9\x00\xac\x20"} {
		for _, big := range orders {
			text, bad := utf16.Decode(b, big)
			decodes(t, turned(b), !big, text, bad)
		}
	}
	for _, x := range right {
		little, _ := utf16.Encode(x.text, false)
		big, _ := utf16.Encode(x.text, true)
		if turned(little) != big {
			t.Errorf("%q: % x, % x", x.text, little, big)
		}
	}
}

func TestListsAreNotShared(t *testing.T) {
	b := "\x00\xd8\x00\xd8\x00\xd8"
	_, one := utf16.Decode(b, false)
	_, two := utf16.Decode(b, false)
	one[0] = 7
	_ = append(one[:1], 8)
	if _, again := utf16.Decode(b, false); !slices.Equal(two, []int{0, 2, 4}) || !slices.Equal(again, two) {
		t.Error(two, again)
	}
}

func TestLongTexts(t *testing.T) {
	text := strings.Repeat("a\u00e9\u20ac\U0001f600", 100000)
	for _, big := range orders {
		b, e := utf16.Encode(text, big)
		if e != api.OK || len(b) != 1000000 || utf16.Units(text) != 500000 {
			t.Error(big, e, len(b), utf16.Units(text))
		}
		decodes(t, b, big, text, nil)
		halves := strings.Repeat(bytesOf(u(0xD83D), big), 100000)
		s, bad := utf16.Decode(halves, big)
		if s != strings.Repeat("\ufffd", 100000) || len(bad) != 100000 || bad[99999] != 199998 || !slices.IsSorted(bad) {
			t.Error("halves:", big, len(s), len(bad))
		}
		if b, e := utf16.Encode(text+"\xff", big); b != "" || e != api.ErrCode || utf16.Units(text+"\xff") != 0 {
			t.Error("a wrong end:", big, len(b), e)
		}
	}
}

func FuzzAll(f *testing.F) {
	for _, x := range right {
		f.Add(bytesOf(x.units, false))
		f.Add(x.text)
	}
	f.Add("\x3d\xd8\x3d\xd8\x00\xde\x00\xde\x00")
	f.Fuzz(func(t *testing.T, b string) {
		var units []uint16
		for i := 0; i+1 < len(b); i += 2 {
			units = append(units, uint16(b[i])<<8|uint16(b[i+1]))
		}
		holds(t, units)
		for _, big := range orders {
			text, _ := utf16.Decode(b, big)
			again, e := utf16.Encode(text, big)
			if e != api.OK || utf16.Valid(b, big) && again != b {
				t.Errorf("% x, %v: % x, %v", b, big, again, e)
			}
			if back, e := utf16.Encode(b, big); (e == api.OK) != utf8.ValidString(b) {
				t.Errorf("%q, %v: % x, %v", b, big, back, e)
			} else if same, bad := utf16.Decode(back, big); e == api.OK && (same != b || len(bad) != 0) {
				t.Errorf("%q, %v: back %q, %v", b, big, same, bad)
			}
		}
	})
}
