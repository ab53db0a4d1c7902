package order_test

import (
	"slices"
	"testing"

	"carding/api"
	"carding/order"
	"carding/tables"
)

// The bounds of what is gone over number by number: all scalars, and some numbers about them.
const lowest, highest = -0x1000, 0x120000

// written are scalars with their parts, by hand: the first number of a row is the scalar.
var written = [][]int{
	{'a', 'a'}, {'K', 'K'}, {' ', ' '}, {'&', '&'}, {0x300, 0x300}, {0x301, 0x301}, {0x327, 0x327}, {0x345, 0x345}, {0xC6, 0xC6}, {0x3A9, 0x3A9}, {0x10FFFF, 0x10FFFF}, // made of nothing
	{0xC0, 'A', 0x300}, {0xE9, 'e', 0x301}, {0xEA, 'e', 0x302}, {0xF1, 'n', 0x303}, {0xFF, 'y', 0x308}, {0xFC, 'u', 0x308}, {0xC5, 'A', 0x30A}, {0xE7, 'c', 0x327}, {0x17E, 'z', 0x30C}, {0x1EB9, 'e', 0x323}, // a whole
	{0x401, 0x415, 0x308}, {0x419, 0x418, 0x306}, {0x439, 0x438, 0x306}, {0x451, 0x435, 0x308},
	{0x1EC7, 'e', 0x323, 0x302}, {0x1EBF, 'e', 0x302, 0x301}, {0x1D6, 'u', 0x308, 0x304}, {0x1D8, 'u', 0x308, 0x301}, // a whole of a whole
	{0x212A, 'K'}, {0x2126, 0x3A9}, {0x340, 0x300}, {0x341, 0x301}, {0x212B, 'A', 0x30A}, // a double, of one part or of what that is made of
	{0xAC00, 0x1100, 0x1161}, {0xAC1C, 0x1100, 0x1162}, {0xD558, 0x1112, 0x1161}, {0xD788, 0x1112, 0x1175}, // a syllable without a last piece
	{0xAC01, 0x1100, 0x1161, 0x11A8}, {0xAC1B, 0x1100, 0x1161, 0x11C2}, {0xAC1D, 0x1100, 0x1162, 0x11A8}, {0xD55C, 0x1112, 0x1161, 0x11AB}, {0xD789, 0x1112, 0x1175, 0x11A8}, {0xD7A3, 0x1112, 0x1175, 0x11C2}, // and with one
	{0x1100, 0x1100}, {0x1161, 0x1161}, {0x11A7, 0x11A7}, {0x11A8, 0x11A8}, {0xABFF, 0xABFF}, {0xD7A4, 0xD7A4}, {0xF900, 0xF900}, {0x1D15E, 0x1D15E},
}

// origins gives what scalars are made of, without Hangul, by their numbers.
func origins() map[int]api.Pair {
	m := map[int]api.Pair{}
	for _, p := range tables.Pairs() {
		m[p.Whole] = p
	}
	return m
}

// partsOf gives a number's parts, as the words have them.
func partsOf(r int, made map[int]api.Pair) []int {
	if at := r - 0xAC00; r >= 0xAC00 && at < 19*21*28 {
		l := []int{0x1100 + at/28/21, 0x1161 + at/28%21}
		if at%28 != 0 {
			l = append(l, 0x11A7+at%28)
		}
		return l
	}
	p, ok := made[r]
	switch {
	case !ok:
		return []int{r}
	case p.Second == 0:
		return partsOf(p.First, made)
	}
	return append(partsOf(p.First, made), partsOf(p.Second, made)...)
}

// P11.1

func TestPartsByNumber(t *testing.T) {
	for _, x := range written {
		is(t, "Parts", order.Parts(x[0]), x[1:])
		is(t, "Decompose", order.Decompose(x[:1]), x[1:])
	}
}

func TestPartsOfEveryNumber(t *testing.T) {
	made := origins()
	var all, want []int
	for r := highest - 1; r >= lowest && !t.Failed(); r-- {
		parts := partsOf(r, made)
		is(t, "Parts", order.Parts(r), parts)
		all, want = append(all, r), append(want, parts...)
	}
	if !slices.Equal(order.Decompose(all), want) {
		t.Error("all of them together")
	}
}

func TestPartsOfNoScalar(t *testing.T) {
	for _, r := range nowhere {
		is(t, "Parts", order.Parts(r), []int{r})
	}
	is(t, "Decompose", order.Decompose(nowhere), nowhere)
}

func TestDecompose(t *testing.T) {
	for _, x := range [][2][]int{
		{nil, nil}, {{}, {}}, {{'a'}, {'a'}}, {{0xE9}, {'e', 0x301}}, {{0x212A}, {'K'}}, {{0xAC01}, {0x1100, 0x1161, 0x11A8}},
		{{'a', 'b', 'c'}, {'a', 'b', 'c'}}, {{0xE9, 'b', 0xAC00}, {'e', 0x301, 'b', 0x1100, 0x1161}}, {{0x1EC7, 0x212B, 0x340}, {'e', 0x323, 0x302, 'A', 0x30A, 0x300}},
		{{0xE9, 0xE9, 'e', 0xE9}, {'e', 0x301, 'e', 0x301, 'e', 'e', 0x301}}, {{0xEA, 0x1EBF, 0xEA, 0x302}, {'e', 0x302, 'e', 0x302, 0x301, 'e', 0x302, 0x302}}, {{0x1EBF, 0xEA}, {'e', 0x302, 0x301, 'e', 0x302}}, // one that is there more than once
		{{0xAC01, 0xAC00, 0xAC01}, {0x1100, 0x1161, 0x11A8, 0x1100, 0x1161, 0x1100, 0x1161, 0x11A8}}, {{0xC5, 0x212B, 0xC5}, {'A', 0x30A, 'A', 0x30A, 'A', 0x30A}},
		{{0xE9, 0x327}, {'e', 0x301, 0x327}}, {{0xE7, 0x301, 0x323}, {'c', 0x327, 0x301, 0x323}}, {{0x341, 0x327, 'a'}, {0x301, 0x327, 'a'}}, {{'b', 0x301, 'a', 0x327}, {'b', 0x301, 'a', 0x327}}, // out of order, and so they stay
		{{'e', 0x301}, {'e', 0x301}}, {{0x1100, 0x1161, 0x11A8}, {0x1100, 0x1161, 0x11A8}}, // parts are not put together
		{{-1, 0xE9, 0xD800, 0}, {-1, 'e', 0x301, 0xD800, 0}},
	} {
		is(t, "Decompose", order.Decompose(x[0]), x[1])
	}
}

func TestDecomposeRows(t *testing.T) {
	made := origins()
	for _, l := range append(rows(4, 'e', 0xE9, 0x1EC7, 0x212B, 0x341, 0x327, 0xAC01, -1), mixed(20000, 'e', 0x323, 0xEA, 0x1EBF, 0x1D8, 0x212A, 0x340, 0xAC00, 0xD7A3)) {
		var want []int
		for _, r := range l {
			want = append(want, partsOf(r, made)...)
		}
		got := order.Decompose(l)
		if !order.Same(got, want) {
			t.Fatalf("Decompose(%.99x) = %.99x; want %.99x", l, got, want)
		}
		if again := order.Decompose(got); !order.Same(again, got) { // P11.3
			t.Fatalf("Decompose(%.99x) = %.99x", got, again)
		}
	}
}

// P11.3

func TestPartsHaveNoParts(t *testing.T) {
	for _, x := range written {
		for _, part := range order.Parts(x[0]) {
			is(t, "Parts", order.Parts(part), []int{part})
		}
	}
	for r := 0xAC00; r <= 0xD7A3 && !t.Failed(); r++ {
		l := order.Parts(r)
		is(t, "Decompose", order.Decompose(l), l)
	}
}

// R4

func TestPartsAreNewMemory(t *testing.T) {
	for _, x := range written {
		for range 3 {
			l := order.Parts(x[0])
			is(t, "Parts", l, x[1:])
			spoil(l)
		}
	}
}

func TestDecomposeChangesNothing(t *testing.T) {
	for _, x := range [][]int{{}, {'a'}, {'a', 'b', 'c'}, {'a', 0x301, 0x327}, {0xE9, 0xAC01}, {0x212A, 'K'}, {0x341, 0x340}, nowhere} {
		l, check := laid(t, x...)
		got := order.Decompose(l)
		check("Decompose")
		want := slices.Clone(got)
		other := order.Decompose(l)
		spoil(got)
		check("Decompose, behind writing")
		is(t, "another answer, behind writing", other, want)
		spoil(l)
		is(t, "an answer, behind writing to what was handed in", other, want)
	}
}
