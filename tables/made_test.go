package tables_test

import (
	"testing"

	"carding/api"
	"carding/tables"
)

// isMade holds Made of a pair's whole against its parts.
func isMade(t *testing.T, p api.Pair) {
	if first, second, ok := tables.Made(p.Whole); first != p.First || second != p.Second || !ok {
		t.Helper()
		t.Errorf("Made(%x) = %x, %x, %v; want %x, %x", p.Whole, first, second, ok, p.First, p.Second)
	}
}

// ofNothing holds Made against a number that is made of nothing.
func ofNothing(t *testing.T, r int) {
	if first, second, ok := tables.Made(r); first != 0 || second != 0 || ok {
		t.Helper()
		t.Errorf("Made(%x) = %x, %x, %v", r, first, second, ok)
	}
}

// P10.2

func TestMadeOfTable(t *testing.T) {
	for _, p := range append(charted(t), twins...) {
		isMade(t, p)
	}
}

func TestMadeByNumber(t *testing.T) {
	for _, p := range []api.Pair{
		{Whole: 0xC0, First: 'A', Second: 0x300}, {Whole: 0xE9, First: 'e', Second: 0x301}, {Whole: 0xF1, First: 'n', Second: 0x303}, {Whole: 0xFF, First: 'y', Second: 0x308},
		{Whole: 0xC7, First: 'C', Second: 0x327}, {Whole: 0xE5, First: 'a', Second: 0x30A}, {Whole: 0x17E, First: 'z', Second: 0x30C},
		{Whole: 0x401, First: 0x415, Second: 0x308}, {Whole: 0x419, First: 0x418, Second: 0x306}, {Whole: 0x439, First: 0x438, Second: 0x306}, {Whole: 0x451, First: 0x435, Second: 0x308},
		// Wholes of wholes, and what these are made of.
		{Whole: 0x1EC7, First: 0x1EB9, Second: 0x302}, {Whole: 0x1EB9, First: 'e', Second: 0x323},
		{Whole: 0x1EBF, First: 0xEA, Second: 0x301}, {Whole: 0xEA, First: 'e', Second: 0x302},
		{Whole: 0x1D6, First: 0xFC, Second: 0x304}, {Whole: 0x1D8, First: 0xFC, Second: 0x301}, {Whole: 0xFC, First: 'u', Second: 0x308},
		// Doubles, and what one of them is made of.
		{Whole: 0x212A, First: 'K'}, {Whole: 0x212B, First: 0xC5}, {Whole: 0xC5, First: 'A', Second: 0x30A}, {Whole: 0x2126, First: 0x3A9}, {Whole: 0x340, First: 0x300}, {Whole: 0x341, First: 0x301},
		// Syllables without a last piece, with the first, and with the last one.
		{Whole: 0xAC00, First: 0x1100, Second: 0x1161}, {Whole: 0xAC01, First: 0xAC00, Second: 0x11A8}, {Whole: 0xAC1B, First: 0xAC00, Second: 0x11C2},
		{Whole: 0xAC1C, First: 0x1100, Second: 0x1162}, {Whole: 0xAC1D, First: 0xAC1C, Second: 0x11A8}, {Whole: 0xAE30, First: 0x1100, Second: 0x1175}, {Whole: 0xAE4C, First: 0x1101, Second: 0x1161},
		{Whole: 0xD55C, First: 0xD558, Second: 0x11AB}, {Whole: 0xD558, First: 0x1112, Second: 0x1161},
		{Whole: 0xD788, First: 0x1112, Second: 0x1175}, {Whole: 0xD789, First: 0xD788, Second: 0x11A8}, {Whole: 0xD7A3, First: 0xD788, Second: 0x11C2},
	} {
		isMade(t, p)
	}
}

func TestMadeOfEverySyllable(t *testing.T) {
	for l := range 19 {
		for v := range 21 {
			for last := range 28 {
				isMade(t, syllable(l, v, last))
			}
		}
	}
}

func TestMadeOfNothing(t *testing.T) {
	for _, r := range []int{
		'a', 'e', 'A', 'K', ' ', 0x7F, 0x80, 0xBF, 0xC6, 0xD0, 0xD7, 0xD8, 0xDE, 0xDF, 0xE6, 0xF0, 0xF7, 0xF8, 0xFE, 0x100, 0x10B, 0x10E, 0x15F, 0x162, 0x178, 0x17C, 0x17F, 0x1D5, 0x1D7, 0x1D9,
		0x300, 0x301, 0x308, 0x323, 0x327, 0x33F, 0x342, 0x343, 0x344, 0x345, 0x374, 0x37E, 0x387, 0x3A9, 0x400, 0x407, 0x415, 0x418, 0x435, 0x438, 0x457,
		0x1EB8, 0x1EBA, 0x1EBE, 0x1EC6, 0x1EC8, 0x1F71, 0x2000, 0x2125, 0x2127, 0x2129, 0x212C, 0x226E,
		0x1100, 0x1112, 0x1161, 0x1175, 0x11A7, 0x11A8, 0x11C2, 0xABFF, 0xD7A4, 0xF900, 0xFB1D, 0xFFFD, 0x1D15E, 0x2F800, 0x10FFFF,
	} {
		ofNothing(t, r)
	}
	for _, r := range nowhere {
		ofNothing(t, r)
	}
}

func TestMadeOfEveryNumber(t *testing.T) {
	all := everything(t)
	if len(all) != 73+11172 {
		t.Fatal(len(all))
	}
	for r := lowest; r < highest && !t.Failed(); r++ {
		if p, ok := all[r]; ok {
			isMade(t, p)
		} else {
			ofNothing(t, r)
		}
	}
}

func TestMadeFarAway(t *testing.T) {
	for r := range everything(t) {
		for _, away := range far(r) {
			ofNothing(t, away)
		}
	}
}

// P10.3

func TestMadeEnds(t *testing.T) {
	for r := range everything(t) {
		steps, parts := 0, []int{r}
		for len(parts) > 0 && steps < 100 {
			steps++
			first, second, ok := tables.Made(parts[0])
			parts = parts[1:]
			if ok {
				parts = append(parts, first, second)
			}
			if ok && (first == r || second == r) {
				t.Errorf("%x comes of itself", r)
			}
		}
		if len(parts) > 0 {
			t.Errorf("what %x is made of does not end", r)
		}
	}
}

func TestNoMarkupIsMade(t *testing.T) {
	plain := func(r int) bool { return r >= 0x41 && r != '&' && r != '<' && r != '>' && r != '"' && r != '\'' }
	for r := lowest; r < highest && !t.Failed(); r++ {
		first, second, ok := tables.Made(r)
		if ok && (!plain(r) || !plain(first) || second != 0 && !plain(second)) {
			t.Errorf("%x is made of %x, %x", r, first, second)
		}
	}
	for r := range 0x41 {
		ofNothing(t, r)
	}
}
