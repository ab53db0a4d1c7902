package utf8_test

import (
	"fmt"
	"math"
	"slices"
	"strings"
	"testing"
	lib "unicode/utf8"

	"carding/utf8"
)

// edges are scalars at the edges of lengths and of halves of pairs, with their bytes.
var edges = []struct {
	r int
	s string
}{
	{0, "\x00"}, {1, "\x01"}, {'a', "a"}, {0x7E, "\x7e"}, {0x7F, "\x7f"},
	{0x80, "\xc2\x80"}, {0x81, "\xc2\x81"}, {0xBF, "\xc2\xbf"}, {0xC0, "\xc3\x80"}, {0x7FE, "\xdf\xbe"}, {0x7FF, "\xdf\xbf"},
	{0x800, "\xe0\xa0\x80"}, {0x801, "\xe0\xa0\x81"}, {0xFFF, "\xe0\xbf\xbf"}, {0x1000, "\xe1\x80\x80"},
	{0xCFFF, "\xec\xbf\xbf"}, {0xD000, "\xed\x80\x80"}, {0xD7FE, "\xed\x9f\xbe"}, {0xD7FF, "\xed\x9f\xbf"},
	{0xE000, "\xee\x80\x80"}, {0xE001, "\xee\x80\x81"}, {0xFEFF, "\xef\xbb\xbf"}, {0xFFFD, "\xef\xbf\xbd"}, {0xFFFE, "\xef\xbf\xbe"}, {0xFFFF, "\xef\xbf\xbf"},
	{0x10000, "\xf0\x90\x80\x80"}, {0x10001, "\xf0\x90\x80\x81"}, {0x1F600, "\xf0\x9f\x98\x80"}, {0x3FFFF, "\xf0\xbf\xbf\xbf"}, {0x40000, "\xf1\x80\x80\x80"},
	{0xFFFFF, "\xf3\xbf\xbf\xbf"}, {0x100000, "\xf4\x80\x80\x80"}, {0x10FFFE, "\xf4\x8f\xbf\xbe"}, {0x10FFFF, "\xf4\x8f\xbf\xbf"},
}

// wrongNumbers are no scalars; many of them would be some, had they fewer bits.
var wrongNumbers = []int{
	-1, -2, -0x80, -0x41, -0xD800, -0x10FFFF, -0x110000, math.MinInt8, math.MinInt16, math.MinInt32, math.MinInt, math.MinInt + 'a',
	0xD800, 0xD801, 0xDBFF, 0xDC00, 0xDFFE, 0xDFFF,
	0x110000, 0x110001, 0x13FFFF, 0x140000, 0x1FFFFF, 0x200000, 0x200000 + 'a', 0x3FFFFFF, 0x4000000, 1<<30 + 'a', math.MaxInt32,
	1 << 32, 1<<32 + 'a', 1<<32 + 0xE9, 1<<32 + 0x20AC, 1<<32 + 0x1F600, 1<<40 + 'a', 1<<62 + 0x800, -1<<32 + 'a', -1<<40 + 0x1F600, math.MaxInt - 1, math.MaxInt,
}

// wrongBytes are texts with no scalar's bytes at their front, with what Loose makes of them.
var wrongBytes = []struct{ b, loose string }{
	// bytes that stand alone, and such as begin nothing
	{"\x80", "�"}, {"\x8f", "�"}, {"\x90", "�"}, {"\x9f", "�"}, {"\xa0", "�"}, {"\xbf", "�"}, {"\x80\x80", "��"}, {"\xbf\x41", "�A"},
	{"\xc0", "�"}, {"\xc1", "�"}, {"\xf5", "�"}, {"\xf6", "�"}, {"\xf7", "�"}, {"\xf8", "�"}, {"\xfb", "�"}, {"\xfc", "�"}, {"\xfd", "�"}, {"\xfe", "�"}, {"\xff", "�"},
	{"\xc0\x80", "��"}, {"\xc0\xaf", "��"}, {"\xc1\xbf", "��"}, {"\xf5\x80\x80\x80", "����"}, {"\xf7\xbf\xbf\xbf", "����"}, {"\xf8\x88\x80\x80\x80", "�����"}, {"\xfc\x84\x80\x80\x80\x80", "������"}, {"\xf8\x90\x80\x80", "����"}, {"\xff\x90\x80\x80", "����"},
	// overlong
	{"\xe0\x80\x80", "���"}, {"\xe0\x80\xaf", "���"}, {"\xe0\x81\x81", "���"}, {"\xe0\x9f\xbf", "���"}, {"\xf0\x80\x80\x80", "����"}, {"\xf0\x82\x82\xac", "����"}, {"\xf0\x8f\xbf\xbf", "����"},
	// halves of pairs
	{"\xed\xa0\x80", "���"}, {"\xed\xaf\xbf", "���"}, {"\xed\xb0\x80", "���"}, {"\xed\xbf\xbf", "���"}, {"\xed\xa0\xbd\xed\xb8\x80", "������"},
	// too great
	{"\xf4\x90\x80\x80", "����"}, {"\xf4\xbf\xbf\xbf", "����"},
	// parts of one byte, of two, of three, cut off by the end
	{"\xc2", "�"}, {"\xdf", "�"}, {"\xe0", "�"}, {"\xe1", "�"}, {"\xed", "�"}, {"\xef", "�"}, {"\xf0", "�"}, {"\xf1", "�"}, {"\xf4", "�"},
	{"\xe0\xa0", "�"}, {"\xe0\xbf", "�"}, {"\xe1\x80", "�"}, {"\xe2\x82", "�"}, {"\xed\x80", "�"}, {"\xed\x9f", "�"}, {"\xef\xbf", "�"}, {"\xf0\x90", "�"}, {"\xf0\xbf", "�"}, {"\xf1\x80", "�"}, {"\xf4\x80", "�"}, {"\xf4\x8f", "�"},
	{"\xf0\x90\x80", "�"}, {"\xf0\x9f\x98", "�"}, {"\xf1\xbf\xbf", "�"}, {"\xf4\x8f\xbf", "�"},
	// the same, but with a byte behind that begins no scalar, or too small a one
	{"\xe0\x80", "��"}, {"\xe0\x9f", "��"}, {"\xed\xa0", "��"}, {"\xed\xbf", "��"}, {"\xf0\x80", "��"}, {"\xf0\x8f", "��"}, {"\xf4\x90", "��"}, {"\xf0\x8f\xbf", "���"}, {"\xf4\x90\x80", "���"}, {"\xf5\x80\x80", "���"},
	// cut off by another byte
	{"\xc2A", "�A"}, {"\xc2\xc2", "��"}, {"\xdf\xff", "��"}, {"\xe2A\x82", "�A�"}, {"\xe2\x82A", "�A"}, {"\xe2\x82\xc0", "��"}, {"\xe2\xc2\x80", "�\u0080"},
	{"\xf0A", "�A"}, {"\xf0\x9fA", "�A"}, {"\xf0\x9f\x98A", "�A"}, {"\xf0\x90\x80é", "�é"}, {"\xf0\x9f\x98\xf0\x9f\x98\x80", "�😀"}, {"\xf0\x9f\x98\x7f\x80", "�\x7f�"},
	// two side by side
	{"\xe2\x82\xe2\x82", "��"}, {"\xf0\x9f\x98\xf0\x9f\x98", "��"}, {"\xe2\x82\xff", "��"}, {"\xff\xe2\x82", "��"}, {"\xc2\xe2\x82\xf0\x9f\x98", "���"},
}

func wantsNone(t *testing.T, s string, at int) {
	t.Helper()
	if r, n, ok := utf8.Next(s, at); r != 0 || n != 0 || ok {
		t.Errorf("Next(%q, %d) = %x, %d, %v; want none", s, at, r, n, ok)
	}
}

// P2.1

func TestScalarsAtEdges(t *testing.T) {
	for _, x := range edges {
		if !utf8.Is(x.r) {
			t.Errorf("%x is a scalar", x.r)
		}
		if s, ok := utf8.Put(x.r); s != x.s || !ok {
			t.Errorf("Put(%x) = %q, %v; want %q", x.r, s, ok, x.s)
		}
		if n := utf8.Len(x.r); n != len(x.s) {
			t.Errorf("Len(%x) = %d; want %d", x.r, n, len(x.s))
		}
		for _, behind := range []string{"", "a", "\x80", "\xbf", "\xff", "é"} {
			for _, ahead := range []string{"", "a", "\x80", "\xe2\x82", "\xff", "😀"} {
				r, n, ok := utf8.Next(ahead+x.s+behind, len(ahead))
				if r != x.r || n != len(x.s) || !ok {
					t.Errorf("Next(%q, %d) = %x, %d, %v", ahead+x.s+behind, len(ahead), r, n, ok)
				}
			}
		}
		for at := 1; at < len(x.s); at++ { // within them
			wantsNone(t, x.s, at)
			wantsNone(t, x.s+"\x80\x80\x80", at)
		}
		for end := 1; end < len(x.s); end++ { // cut off, though there is more behind the end
			wantsNone(t, x.s[:end], 0)
			wantsNone(t, x.s[:end]+"a", 0)
		}
	}
}

func TestEveryScalar(t *testing.T) {
	for r := -0x100; r < 0x220000; r++ {
		is := r >= 0 && r <= 0x10FFFF && (r < 0xD800 || r > 0xDFFF)
		want := ""
		if is {
			want = string(rune(r))
		}
		s, ok := utf8.Put(r)
		if utf8.Is(r) != is || s != want || ok != is || utf8.Len(r) != len(want) {
			t.Fatalf("%x: %v, %q, %v, %d", r, utf8.Is(r), s, ok, utf8.Len(r))
		}
		if x, n, ok := utf8.Next(want, 0); is && (x != r || n != len(want) || !ok) {
			t.Fatalf("%x: next is %x, %d, %v", r, x, n, ok)
		}
	}
}

func TestNoScalars(t *testing.T) {
	for _, r := range wrongNumbers {
		if utf8.Is(r) {
			t.Errorf("%x is no scalar", r)
		}
		if s, ok := utf8.Put(r); s != "" || ok {
			t.Errorf("Put(%x) = %q, %v", r, s, ok)
		}
		if n := utf8.Len(r); n != 0 {
			t.Errorf("Len(%x) = %d", r, n)
		}
	}
}

func TestNextAt(t *testing.T) {
	s := "aé€😀\xffb"
	for at, want := range []struct {
		r, n int
	}{{'a', 1}, {0xE9, 2}, {}, {0x20AC, 3}, {}, {}, {0x1F600, 4}, {}, {}, {}, {}, {'b', 1}, {}} {
		r, n, ok := utf8.Next(s, at)
		if r != want.r || n != want.n || ok != (want.n > 0) {
			t.Errorf("at %d: %x, %d, %v", at, r, n, ok)
		}
	}
	if r, n, ok := utf8.Next("\x00", 0); r != 0 || n != 1 || !ok { // 0 is a scalar, too
		t.Error("nought:", r, n, ok)
	}
	for _, s := range []string{"", "a", "é", s} {
		for _, at := range []int{-1, -2, -len(s), math.MinInt, len(s), len(s) + 1, len(s) + 4, 1 << 32, math.MaxInt - 1, math.MaxInt} {
			if at != 0 || s == "" {
				wantsNone(t, s, at)
			}
		}
	}
}

func TestNextWrong(t *testing.T) {
	for _, x := range wrongBytes {
		wantsNone(t, x.b, 0)
		wantsNone(t, x.b+"a", 0)
		wantsNone(t, "😀"+x.b, 4)
	}
}

// P2.2

func TestRightText(t *testing.T) {
	for s, want := range map[string][]int{
		"":                         nil,
		"\x00":                     {0},
		"a":                        {'a'},
		"aé€😀":                     {'a', 0xE9, 0x20AC, 0x1F600},
		"😀😀":                       {0x1F600, 0x1F600},
		"�":                        {0xFFFD},
		"a�b":                      {'a', 0xFFFD, 'b'},
		"\xef\xbb\xbfa":            {0xFEFF, 'a'},
		"\xef\xbf\xbf\r\n\u0080":   {0xFFFF, '\r', '\n', 0x80},
		"e\u0301":                  {'e', 0x301},
		"\xed\x9f\xbf\xee\x80\x80": {0xD7FF, 0xE000},
		"\xf4\x8f\xbf\xbf\x7f":     {0x10FFFF, 0x7F},
	} {
		l, ok := utf8.Scalars(s)
		if !ok || !slices.Equal(l, want) {
			t.Errorf("Scalars(%q) = %x, %v; want %x", s, l, ok, want)
		}
		if b, ok := utf8.Text(want); !ok || b != s {
			t.Errorf("Text(%x) = %q, %v; want %q", want, b, ok, s)
		}
		if !utf8.Valid(s) {
			t.Errorf("%q is right", s)
		}
	}
	var l []int
	var s string
	for _, x := range edges {
		l = append(l, x.r)
		s += x.s
	}
	if got, ok := utf8.Scalars(s); !ok || !slices.Equal(got, l) || !utf8.Valid(s) {
		t.Errorf("all edges: %x, %v", got, ok)
	}
	if got, ok := utf8.Text(l); !ok || got != s {
		t.Errorf("all edges: %q, %v", got, ok)
	}
}

func TestEmptyLists(t *testing.T) {
	for _, l := range [][]int{nil, {}} {
		if s, ok := utf8.Text(l); s != "" || !ok {
			t.Errorf("%q, %v", s, ok)
		}
	}
	if l, ok := utf8.Scalars(""); len(l) != 0 || !ok || !utf8.Valid("") {
		t.Error(l, ok)
	}
}

func TestWrongText(t *testing.T) {
	for _, x := range wrongBytes {
		for _, s := range []string{x.b, "a" + x.b, x.b + "a", "aé€😀" + x.b + "aé€😀", x.b + x.b} {
			if utf8.Valid(s) {
				t.Errorf("%q is not right", s)
			}
			if l, ok := utf8.Scalars(s); len(l) != 0 || ok {
				t.Errorf("Scalars(%q) = %x, %v", s, l, ok)
			}
		}
	}
}

func TestTextOfNoScalars(t *testing.T) {
	for _, r := range wrongNumbers {
		for _, l := range [][]int{{r}, {'a', r}, {r, 'a'}, {'a', 0x20AC, r, 0x1F600}, {r, r}, {0xD83D, r}} {
			if s, ok := utf8.Text(l); s != "" || ok {
				t.Errorf("Text(%x) = %q, %v", l, s, ok)
			}
		}
	}
	if s, ok := utf8.Text([]int{0xD83D, 0xDE00}); s != "" || ok { // a pair's halves are no scalars, together neither
		t.Errorf("%q, %v", s, ok)
	}
}

func TestListsAreNotShared(t *testing.T) {
	room := []int{'a', 0xE9, 0x1F600, 7, 7, 7}
	if s, ok := utf8.Text(room[:3]); s != "aé😀" || !ok || !slices.Equal(room, []int{'a', 0xE9, 0x1F600, 7, 7, 7}) {
		t.Errorf("%q, %v, list %x", s, ok, room)
	}
	one, _ := utf8.Scalars("aé😀")
	two, _ := utf8.Scalars("aé😀")
	one[0] = 'x'
	_ = append(one, 'y')
	if again, _ := utf8.Scalars("aé😀"); two[0] != 'a' || !slices.Equal(again, two) {
		t.Errorf("%x, %x", two, again)
	}
}

// P2.3

func TestLooseOfWrongParts(t *testing.T) {
	for _, x := range wrongBytes {
		for _, ahead := range []string{"", "a", "\x00", "aé€😀", "�"} {
			for _, behind := range []string{"", "a", "é€", "😀", "\x00"} {
				s, wrong := utf8.Loose(ahead + x.b + behind)
				if s != ahead+x.loose+behind || wrong != len(ahead) {
					t.Errorf("Loose(%q) = %q, %d; want %q, %d", ahead+x.b+behind, s, wrong, ahead+x.loose+behind, len(ahead))
				}
			}
		}
	}
}

func TestLooseFirstWrong(t *testing.T) {
	for _, x := range []struct {
		b, s string
		at   int
	}{
		{"", "", -1},
		{"a", "a", -1},
		{"a\xe2\x82b", "a�b", 1},
		{"a\xe2\x82b\xff", "a�b�", 1},
		{"é\xff\xfe", "é��", 2},
		{"\xef\xbf\xbd\xff", "��", 3},
		{"�", "�", -1},
		{"\xef\xbb\xbf\xef\xbb", "\ufeff�", 3},
		{"Ol\xe9 \xe0 la", "Ol� � la", 2},
	} {
		if s, at := utf8.Loose(x.b); s != x.s || at != x.at {
			t.Errorf("Loose(%q) = %q, %d; want %q, %d", x.b, s, at, x.s, x.at)
		}
	}
}

// begun are the pieces with which scalars' bytes begin, not whole.
func begun() map[string]bool {
	all := map[string]bool{}
	for r := rune(0); r <= 0x10FFFF; r += 1 << 6 { // one of each row whose bytes are the same but for the last
		if r < 0xD800 || r > 0xDFFF {
			s := string(r)
			for n := 1; n < len(s); n++ {
				all[s[:n]] = true
			}
		}
	}
	return all
}

// mended is what the chapter's words make of bytes, with the library's scalars.
func mended(b string, begun map[string]bool) (string, int) {
	var out []byte
	wrong := -1
	for at := 0; at < len(b); {
		if r, n := lib.DecodeRuneInString(b[at:]); r != lib.RuneError || n > 1 {
			out = append(out, b[at:at+n]...)
			at += n
			continue
		}
		if wrong < 0 {
			wrong = at
		}
		n := min(4, len(b)-at)
		for n > 1 && !begun[b[at:at+n]] {
			n--
		}
		out = append(out, "�"...)
		at += n
	}
	return string(out), wrong
}

// holds holds all calls on one text against the chapter's words.
func holds(t *testing.T, b string, begun map[string]bool) {
	t.Helper()
	want, at := mended(b, begun)
	if s, wrong := utf8.Loose(b); s != want || wrong != at {
		t.Fatalf("Loose(%q) = %q, %d; want %q, %d", b, s, wrong, want, at)
	}
	if utf8.Valid(b) != (at < 0) {
		t.Fatalf("Valid(%q) = %v", b, at >= 0)
	}
	l, ok := utf8.Scalars(b)
	if ok != (at < 0) || !ok && len(l) != 0 {
		t.Fatalf("Scalars(%q) = %x, %v", b, l, ok)
	}
	if s, fine := utf8.Text(l); ok && (s != b || !fine) {
		t.Fatalf("Text of Scalars(%q) = %q, %v", b, s, fine)
	}
	r, n, ok := utf8.Next(b, 0)
	x, size := lib.DecodeRuneInString(b)
	if b == "" || x == lib.RuneError && size == 1 {
		x, size = 0, 0
	}
	if r != int(x) || n != size || ok != (size > 0) {
		t.Fatalf("Next(%q, 0) = %x, %d, %v; want %x, %d", b, r, n, ok, x, size)
	}
}

// texts gives all texts of so many of these bytes.
func texts(letters string, n int, f func(string)) {
	b := make([]byte, n)
	var fill func(int)
	fill = func(i int) {
		if i == n {
			f(string(b))
			return
		}
		for _, c := range []byte(letters) {
			b[i] = c
			fill(i + 1)
		}
	}
	fill(0)
}

func TestAllShortTexts(t *testing.T) {
	pieces := begun()
	var all []byte
	for c := range 256 {
		all = append(all, byte(c))
	}
	each := func(b string) { holds(t, b, pieces) }
	for n := range 3 {
		texts(string(all), n, each)
	}
	texts("\x00a\x7f\x80\x8f\x90\x9f\xa0\xbf\xc0\xc1\xc2\xdf\xe0\xe1\xec\xed\xee\xef\xf0\xf1\xf3\xf4\xf5\xf7\xf8\xff", 3, each)
	texts("a\x80\x8f\x90\x9f\xa0\xbf\xc1\xc2\xe0\xe1\xed\xef\xf0\xf1\xf4\xf5", 4, each)
	texts("a\x8f\x90\xbf\xc2\xe0\xed\xf0\xf4", 5, each)
}

// P2.4

func TestTextAndScalarsBack(t *testing.T) {
	for _, x := range edges {
		for _, y := range edges {
			l := []int{x.r, y.r, x.r}
			s, ok := utf8.Text(l)
			if !ok || s != x.s+y.s+x.s {
				t.Fatalf("%x: %q, %v", l, s, ok)
			}
			if back, ok := utf8.Scalars(s); !ok || !slices.Equal(back, l) {
				t.Fatalf("%q: %x, %v", s, back, ok)
			}
		}
	}
	var l []int
	for r := range 0x110000 {
		if r < 0xD800 || r > 0xDFFF {
			l = append(l, r)
		}
	}
	s, ok := utf8.Text(l)
	back, fine := utf8.Scalars(s)
	if !ok || !fine || !lib.ValidString(s) || !slices.Equal(back, l) {
		t.Error("not all scalars come back")
	}
	if same, wrong := utf8.Loose(s); same != s || wrong != -1 {
		t.Error("all scalars are mended:", wrong)
	}
}

func TestLooseIsRight(t *testing.T) {
	for _, x := range wrongBytes {
		for _, y := range wrongBytes {
			s, wrong := utf8.Loose(x.b + y.b) // the two may make a scalar together
			if (wrong < 0) != utf8.Valid(x.b+y.b) || !utf8.Valid(s) {
				t.Fatalf("%q: %q, %d", x.b+y.b, s, wrong)
			}
			if again, wrong := utf8.Loose(s); again != s || wrong != -1 {
				t.Fatalf("%q: again %q, %d", x.b+y.b, again, wrong)
			}
		}
	}
}

func TestLooseKeepsRightText(t *testing.T) {
	rights := []string{"a", "é", "€", "😀", "�", "\x00\x7f", "\u0080", "aé€😀"}
	for _, x := range edges {
		rights = append(rights, x.s)
	}
	for _, x := range wrongBytes {
		for _, y := range wrongBytes {
			before, _ := utf8.Loose(x.b)
			after, _ := utf8.Loose(y.b)
			for _, right := range rights {
				if s, wrong := utf8.Loose(x.b + right + y.b); s != before+right+after || wrong != 0 {
					t.Fatalf("%q, %q, %q: %q, %d", x.b, right, y.b, s, wrong)
				}
				if s, wrong := utf8.Loose(right + y.b + right); s != right+after+right || wrong != len(right) {
					t.Fatalf("%q, %q: %q, %d", right, y.b, s, wrong)
				}
			}
		}
	}
}

func TestLongTexts(t *testing.T) {
	right := strings.Repeat("aé€😀", 100000)
	if l, ok := utf8.Scalars(right); !ok || len(l) != 400000 || !utf8.Valid(right) {
		t.Error("right:", len(l), ok)
	}
	if s, wrong := utf8.Loose(right); s != right || wrong != -1 {
		t.Error("right, loosely:", len(s), wrong)
	}
	for _, part := range []string{"\x80", "\xe2\x82", "\xf0\x9f\x98"} {
		wrong := right + strings.Repeat(part, 100000)
		if s, at := utf8.Loose(wrong); s != right+strings.Repeat("�", 100000) || at != len(right) {
			t.Error(fmt.Sprintf("%q:", part), len(s), at)
		}
		if l, ok := utf8.Scalars(wrong); len(l) != 0 || ok || utf8.Valid(wrong) {
			t.Error(fmt.Sprintf("%q:", part), len(l), ok)
		}
	}
}

func FuzzAll(f *testing.F) {
	for _, x := range wrongBytes {
		f.Add(x.b)
	}
	for _, x := range edges {
		f.Add(x.s)
	}
	pieces := begun()
	f.Fuzz(func(t *testing.T, b string) { holds(t, b, pieces) })
}
