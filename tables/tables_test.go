package tables_test

import (
	"cmp"
	"math"
	"slices"
	"strconv"
	"strings"
	"testing"

	"carding/api"
	"carding/tables"
)

// chart is the chapter's table, row by row: a mark, and its letters, each with its whole.
const chart = `
grave (300) | A C0, E C8, I CC, O D2, U D9, a E0, e E8, i EC, o F2, u F9
acute (301) | A C1, E C9, I CD, O D3, U DA, Y DD, a E1, e E9, i ED, o F3, u FA, y FD, (EA) 1EBF, (FC) 1D8
circumflex (302) | A C2, E CA, I CE, O D4, U DB, a E2, e EA, i EE, o F4, u FB, (1EB9) 1EC7
tilde (303) | A C3, N D1, O D5, a E3, n F1, o F5
macron (304) | (FC) 1D6
breve (306) | (418) 419, (438) 439
diaeresis (308) | A C4, E CB, I CF, O D6, U DC, a E4, e EB, i EF, o F6, u FC, y FF, (415) 401, (435) 451
ring (30A) | A C5, a E5
caron (30C) | C 10C, S 160, Z 17D, c 10D, s 161, z 17E
dot below (323) | e 1EB9
cedilla (327) | C C7, c E7
`

// twins are the chapter's doubles, by their numbers.
var twins = []api.Pair{
	{Whole: 0x340, First: 0x300}, {Whole: 0x341, First: 0x301}, {Whole: 0x2126, First: 0x3A9}, {Whole: 0x212A, First: 0x4B}, {Whole: 0x212B, First: 0xC5},
}

// words are the chapter's classes.
const words = "300 to 314, 340, 341: 230; 315: 232; 316 to 319, 323 to 326: 220; 31B: 216; 327, 328: 202; 338: 1; 345: 240"

// The bounds of what is gone over number by number: all scalars, and some numbers about them.
const lowest, highest = -0x1000, 0x120000

// number reads a number to base 16.
func number(t *testing.T, s string) int {
	t.Helper()
	n, err := strconv.ParseInt(s, 16, 32)
	if err != nil {
		t.Fatal(err)
	}
	return int(n)
}

// charted gives the pairs of the chart, by their wholes.
func charted(t *testing.T) []api.Pair {
	t.Helper()
	var l []api.Pair
	for _, line := range strings.Split(strings.TrimSpace(chart), "\n") {
		mark, letters, _ := strings.Cut(line, " | ")
		mark = mark[strings.Index(mark, "(")+1 : len(mark)-1]
		for _, cell := range strings.Split(letters, ", ") {
			letter, whole, _ := strings.Cut(cell, " ")
			first := int(letter[0])
			if len(letter) > 1 {
				first = number(t, letter[1:len(letter)-1])
			}
			l = append(l, api.Pair{Whole: number(t, whole), First: first, Second: number(t, mark)})
		}
	}
	slices.SortFunc(l, func(a, b api.Pair) int { return cmp.Compare(a.Whole, b.Whole) })
	return l
}

// syllable is a syllable of Hangul, and what it is made of.
func syllable(l, v, t int) api.Pair {
	whole := 0xAC00 + (l*21+v)*28 + t
	if t == 0 {
		return api.Pair{Whole: whole, First: 0x1100 + l, Second: 0x1161 + v}
	}
	return api.Pair{Whole: whole, First: 0xAC00 + (l*21+v)*28, Second: 0x11A7 + t}
}

// everything gives all scalars that are made of something: those of the chart, the doubles, the syllables.
func everything(t *testing.T) map[int]api.Pair {
	t.Helper()
	m := map[int]api.Pair{}
	for _, p := range append(charted(t), twins...) {
		m[p.Whole] = p
	}
	for l := range 19 {
		for v := range 21 {
			for t := range 28 {
				p := syllable(l, v, t)
				m[p.Whole] = p
			}
		}
	}
	return m
}

// far gives numbers that are no scalars, but would be the given one, had they fewer bits, or no sign.
func far(r int) []int {
	return []int{
		-r, ^r, r - 1<<16, r - 1<<32, r - 1<<31, r + math.MinInt,
		r + 1<<21, r + 1<<24, r + 1<<31, r + 1<<32, r + 3<<32, r + 1<<48, r + 1<<62, math.MaxInt - r,
	}
}

// nowhere are numbers that nothing is told of.
var nowhere = []int{
	math.MinInt, math.MinInt + 1, math.MinInt64 / 2, math.MinInt32, math.MinInt16, math.MinInt8, -0x10FFFF, -0x300, -2, -1, 0, 1,
	0xD800, 0xDBFF, 0xDC00, 0xDFFF, 0x10FFFF, 0x110000, math.MaxInt32, math.MaxUint32, math.MaxInt - 1, math.MaxInt,
}

// P10.1

func TestPairs(t *testing.T) {
	table := charted(t)
	if len(table) != 68 {
		t.Fatal(len(table))
	}
	want := append(table, twins...)
	got := tables.Pairs()
	if len(got) != 73 {
		t.Errorf("%d pairs", len(got))
	}
	if !slices.Equal(got, want) {
		t.Errorf("Pairs() = %x; want %x", got, want)
	}
}

// TestPairsByNumber has the order of all wholes by hand.
func TestPairsByNumber(t *testing.T) {
	wholes := []int{
		0xC0, 0xC1, 0xC2, 0xC3, 0xC4, 0xC5, 0xC7, 0xC8, 0xC9, 0xCA, 0xCB, 0xCC, 0xCD, 0xCE, 0xCF,
		0xD1, 0xD2, 0xD3, 0xD4, 0xD5, 0xD6, 0xD9, 0xDA, 0xDB, 0xDC, 0xDD,
		0xE0, 0xE1, 0xE2, 0xE3, 0xE4, 0xE5, 0xE7, 0xE8, 0xE9, 0xEA, 0xEB, 0xEC, 0xED, 0xEE, 0xEF,
		0xF1, 0xF2, 0xF3, 0xF4, 0xF5, 0xF6, 0xF9, 0xFA, 0xFB, 0xFC, 0xFD, 0xFF,
		0x10C, 0x10D, 0x160, 0x161, 0x17D, 0x17E, 0x1D6, 0x1D8, 0x401, 0x419, 0x439, 0x451, 0x1EB9, 0x1EBF, 0x1EC7,
		0x340, 0x341, 0x2126, 0x212A, 0x212B,
	}
	var got []int
	for _, p := range tables.Pairs() {
		got = append(got, p.Whole)
	}
	if !slices.Equal(got, wholes) {
		t.Errorf("wholes %x; want %x", got, wholes)
	}
}

func TestPairsInOrder(t *testing.T) {
	l := tables.Pairs()
	rising := func(a, b api.Pair) int { return cmp.Compare(a.Whole, b.Whole) }
	at := slices.IndexFunc(l, func(p api.Pair) bool { return p.Second == 0 })
	if at != 68 || !slices.IsSortedFunc(l[:at], rising) || !slices.IsSortedFunc(l[at:], rising) {
		t.Errorf("the doubles begin at %d of %x", at, l)
	}
	for i, p := range l {
		if (p.Second == 0) != (i >= 68) || i > 0 && p.Whole == l[i-1].Whole {
			t.Errorf("%d: %x", i, p)
		}
		if p.Whole >= 0xAC00 || p.First >= 0x1100 && p.First <= 0x1112 || tables.Hangul(p.Whole) {
			t.Errorf("Hangul at %d: %x", i, p)
		}
	}
}

func TestPairsAreNewMemory(t *testing.T) {
	want := append(charted(t), twins...)
	l := tables.Pairs()
	for i := range l {
		l[i] = api.Pair{Whole: -1, First: -1, Second: -1}
	}
	room := l[:cap(l)]
	clear(room)
	if got := tables.Pairs(); !slices.Equal(got, want) {
		t.Errorf("Pairs() = %x behind writing", got)
	}
	first, second, ok := tables.Made(0xE9)
	if whole, fine := tables.Whole('e', 0x301); first != 'e' || second != 0x301 || !ok || whole != 0xE9 || !fine {
		t.Errorf("%x, %x, %v; %x, %v behind writing", first, second, ok, whole, fine)
	}
}
