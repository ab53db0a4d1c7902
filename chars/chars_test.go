package chars_test

import (
	"math"
	"slices"
	"strconv"
	"strings"
	"testing"

	"carding/chars"
)

// The kinds of numbers, in the chapter's words, letters by their numbers.
const (
	charWords    = "9, A, D, 20 to D7FF, E000 to FFFD, 10000 to 10FFFF"
	spaceWords   = "9, A, D, 20"
	firstWords   = "41 to 5A, 61 to 7A, 5F, C0 to D6, D8 to F6, F8 to 2FF, 370 to 37D, 37F to 1FFF, 200C, 200D, 2070 to 218F, 2C00 to 2FEF, 3001 to D7FF, F900 to FDCF, FDF0 to FFFD, 10000 to EFFFF"
	furtherWords = firstWords + ", 2D, 2E, 30 to 39, B7, 300 to 36F, 203F, 2040"
)

// kinds are the functions that tell a kind of numbers, with the chapter's words of it.
var kinds = []struct {
	name  string
	is    func(int) bool
	words string
}{
	{"Char", chars.Char, charWords},
	{"Space", chars.Space, spaceWords},
	{"First", chars.First, firstWords},
	{"Further", chars.Further, furtherWords},
}

// spans gives the ranges that words list, a single number as a range of one.
func spans(t *testing.T, words string) [][2]int {
	t.Helper()
	var l [][2]int
	for _, w := range strings.Split(words, ", ") {
		from, to, two := strings.Cut(w, " to ")
		if !two {
			to = from
		}
		a, err := strconv.ParseInt(from, 16, 32)
		b, err2 := strconv.ParseInt(to, 16, 32)
		if err != nil || err2 != nil {
			t.Fatal(w)
		}
		l = append(l, [2]int{int(a), int(b)})
	}
	return l
}

// of tells whether a number is in a range.
func of(r int, l [][2]int) bool {
	return slices.ContainsFunc(l, func(s [2]int) bool { return s[0] <= r && r <= s[1] })
}

// far are numbers that are no scalars; many would be of a kind, had they fewer bits.
var far = []int{
	-1, -2, -9, -10, -13, -0x20, -'a', -'_', -0xC0, -0x100, -0xD800, -0x10FFFF, -0x110000, math.MinInt8, math.MinInt16, math.MinInt32, math.MinInt32 + 'a', math.MinInt, math.MinInt + 9, math.MinInt + 'a',
	0xD800, 0xD801, 0xDBFF, 0xDC00, 0xDFFE, 0xDFFF,
	0x110000, 0x110001, 0x110020, 0x110000 + 'a', 0x11FFFF, 0x1FFFFF, 0x200000, 0x200000 + 'a', 1<<24 + ' ', 1<<30 + 'a',
	math.MaxInt32, 1 << 31, 1<<31 + 'a', 1 << 32, 1<<32 + 9, 1<<32 + ' ', 1<<32 + 'a', 1<<32 + '-', 1<<32 + 0x20AC, 1<<40 + 'a', 1<<62 + ' ', -1<<32 + 'a', -1<<40 + ' ', math.MaxInt - 1, math.MaxInt,
}

// P9.1

func TestKindsAtEdges(t *testing.T) {
	for _, k := range kinds {
		l := spans(t, k.words)
		for _, s := range l {
			if !k.is(s[0]) || !k.is(s[1]) {
				t.Errorf("%s of %x, %x: %v, %v", k.name, s[0], s[1], k.is(s[0]), k.is(s[1]))
			}
			if r := s[0] - 1; k.is(r) != of(r, l) {
				t.Errorf("%s(%x) = %v, one below %x", k.name, r, k.is(r), s[0])
			}
			if r := s[1] + 1; k.is(r) != of(r, l) {
				t.Errorf("%s(%x) = %v, one above %x", k.name, r, k.is(r), s[1])
			}
		}
	}
}

func TestEveryNumber(t *testing.T) {
	for _, k := range kinds {
		l := spans(t, k.words)
		for r := -0x1000; r < 0x120000; r++ {
			if k.is(r) != of(r, l) {
				t.Fatalf("%s(%x) = %v", k.name, r, k.is(r))
			}
		}
	}
}

// TestSomeNumbers has the kinds by hand, letters as letters.
func TestSomeNumbers(t *testing.T) {
	for _, c := range []struct {
		r                           int
		char, space, first, further bool
	}{
		{'A', true, false, true, true}, {'M', true, false, true, true}, {'Z', true, false, true, true}, {'@', true, false, false, false}, {'[', true, false, false, false},
		{'a', true, false, true, true}, {'m', true, false, true, true}, {'z', true, false, true, true}, {'`', true, false, false, false}, {'{', true, false, false, false},
		{'_', true, false, true, true}, {'^', true, false, false, false}, {':', true, false, false, false}, {';', true, false, false, false},
		{'-', true, false, false, true}, {',', true, false, false, false}, {'.', true, false, false, true}, {'/', true, false, false, false},
		{'0', true, false, false, true}, {'5', true, false, false, true}, {'9', true, false, false, true},
		{'\t', true, true, false, false}, {'\n', true, true, false, false}, {'\v', false, false, false, false}, {'\f', false, false, false, false}, {'\r', true, true, false, false}, {' ', true, true, false, false}, {'!', true, false, false, false},
		{0, false, false, false, false}, {8, false, false, false, false}, {0xE, false, false, false, false}, {0x1F, false, false, false, false}, {0x7F, true, false, false, false},
		{0x80, true, false, false, false}, {0x85, true, false, false, false}, {0xA0, true, false, false, false}, {0xAA, true, false, false, false}, {0xB7, true, false, false, true}, {0xB6, true, false, false, false}, {0xB8, true, false, false, false},
		{0xE9, true, false, true, true}, {0xD7, true, false, false, false}, {0xF7, true, false, false, false}, {0x37E, true, false, false, false}, {0x301, true, false, false, true}, {0x416, true, false, true, true},
		{0x2000, true, false, false, false}, {0x200B, true, false, false, false}, {0x200C, true, false, true, true}, {0x200D, true, false, true, true}, {0x200E, true, false, false, false}, {0x2028, true, false, false, false},
		{0x203E, true, false, false, false}, {0x203F, true, false, false, true}, {0x2040, true, false, false, true}, {0x2041, true, false, false, false}, {0x20AC, true, false, true, true},
		{0x2190, true, false, false, false}, {0x3000, true, false, false, false}, {0x4E00, true, false, true, true}, {0xE000, true, false, false, false}, {0xF8FF, true, false, false, false},
		{0xFDD0, true, false, false, false}, {0xFDEF, true, false, false, false}, {0xFEFF, true, false, true, true}, {0xFFFD, true, false, true, true}, {0xFFFE, false, false, false, false}, {0xFFFF, false, false, false, false},
		{0x1F600, true, false, true, true}, {0x1FFFE, true, false, true, true}, {0xEFFFF, true, false, true, true}, {0xF0000, true, false, false, false}, {0x10FFFF, true, false, false, false}, {0x110000, false, false, false, false},
	} {
		if chars.Char(c.r) != c.char || chars.Space(c.r) != c.space || chars.First(c.r) != c.first || chars.Further(c.r) != c.further {
			t.Errorf("%x: %v, %v, %v, %v", c.r, chars.Char(c.r), chars.Space(c.r), chars.First(c.r), chars.Further(c.r))
		}
	}
}

func TestNoScalars(t *testing.T) {
	for _, k := range kinds {
		for _, r := range far {
			if k.is(r) {
				t.Errorf("%s(%x): it is no scalar", k.name, r)
			}
		}
	}
}

// P9.3

func TestKindsWithinKinds(t *testing.T) {
	l := slices.Clone(far)
	for r := -0x100; r < 0x120000; r++ {
		l = append(l, r)
	}
	for _, r := range l {
		char, space, first, further := chars.Char(r), chars.Space(r), chars.First(r), chars.Further(r)
		if first && !further || further && !char || space && (first || further) || space && !char {
			t.Fatalf("%x: %v, %v, %v, %v", r, char, space, first, further)
		}
	}
}
