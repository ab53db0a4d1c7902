package tables_test

import (
	"testing"

	"carding/tables"
)

// makes holds Whole of two numbers against the whole that they make.
func makes(t *testing.T, first, second, want int) {
	if whole, ok := tables.Whole(first, second); whole != want || !ok {
		t.Helper()
		t.Errorf("Whole(%x, %x) = %x, %v; want %x", first, second, whole, ok, want)
	}
}

// makesNone holds Whole against two numbers that make nothing.
func makesNone(t *testing.T, first, second int) {
	if whole, ok := tables.Whole(first, second); whole != 0 || ok {
		t.Helper()
		t.Errorf("Whole(%x, %x) = %x, %v", first, second, whole, ok)
	}
}

// joins gives what all pairs of parts make.
func joins(t *testing.T) map[[2]int]int {
	t.Helper()
	m := map[[2]int]int{}
	for _, p := range everything(t) {
		if p.Second != 0 {
			m[[2]int{p.First, p.Second}] = p.Whole
		}
	}
	return m
}

// holds holds Whole of two numbers against all that make something.
func holds(t *testing.T, first, second int, all map[[2]int]int) {
	if whole, ok := all[[2]int{first, second}]; ok {
		makes(t, first, second, whole)
	} else {
		makesNone(t, first, second)
	}
}

// P10.2

func TestWholeOfTable(t *testing.T) {
	for _, p := range charted(t) {
		makes(t, p.First, p.Second, p.Whole)
		makesNone(t, p.Second, p.First)
		makesNone(t, p.Whole, p.Second)
		makesNone(t, p.First, p.Second+1<<32)
		makesNone(t, p.First, 0)
		makesNone(t, p.Whole, 0)
		makesNone(t, 0, p.Second)
	}
}

func TestWholeByNumber(t *testing.T) {
	for _, x := range [][3]int{
		{'A', 0x300, 0xC0}, {'y', 0x308, 0xFF}, {'N', 0x303, 0xD1}, {'A', 0x30A, 0xC5}, {'z', 0x30C, 0x17E}, {'c', 0x327, 0xE7}, {'e', 0x323, 0x1EB9},
		{0xEA, 0x301, 0x1EBF}, {0xFC, 0x301, 0x1D8}, {0xFC, 0x304, 0x1D6}, {0x1EB9, 0x302, 0x1EC7},
		{0x418, 0x306, 0x419}, {0x438, 0x306, 0x439}, {0x415, 0x308, 0x401}, {0x435, 0x308, 0x451},
		{0x1100, 0x1161, 0xAC00}, {0x1100, 0x1162, 0xAC1C}, {0x1100, 0x1175, 0xAE30}, {0x1101, 0x1161, 0xAE4C}, {0x1112, 0x1161, 0xD558}, {0x1112, 0x1175, 0xD788},
		{0xAC00, 0x11A8, 0xAC01}, {0xAC00, 0x11C2, 0xAC1B}, {0xAC1C, 0x11A8, 0xAC1D}, {0xD558, 0x11AB, 0xD55C}, {0xD788, 0x11A8, 0xD789}, {0xD788, 0x11C2, 0xD7A3},
	} {
		makes(t, x[0], x[1], x[2])
	}
}

func TestWholeIsNoDouble(t *testing.T) {
	for _, p := range twins {
		makesNone(t, p.First, p.Second)
		makesNone(t, 0, p.First)
		makesNone(t, p.Whole, p.First)
		makesNone(t, p.Whole, 0)
	}
	makes(t, 'A', 0x30A, 0xC5) // and not 212B
	for _, mark := range []int{0x340, 0x341} {
		for _, p := range charted(t) {
			makesNone(t, p.First, mark) // a mark's double is not the mark
		}
	}
}

func TestWholeIsNone(t *testing.T) {
	for _, x := range [][2]int{
		{'x', 0x301}, {'e', 0x303}, {'e', 0x327}, {'N', 0x300}, {'n', 0x301}, {'k', 0x308}, {'E', 0x323}, {'C', 0x301}, {'Y', 0x308}, {'u', 0x304}, {'U', 0x30A},
		{0xE9, 0x302}, {0xCA, 0x301}, {0xDC, 0x304}, {0x1EB8, 0x302}, {0x212B, 0x301}, {0x212A, 0x327}, {0x435, 0x306}, {0x3A9, 0x301}, {0x300, 0x300}, {0x308, 0x301}, {0x301, 'e'},
		{'e', 0x305}, {'e', 0x30B}, {'e', 0x30F}, {'e', 0x313}, {'e', 0x338}, {'e', 0x345}, {'e', 'e'}, {0x0, 0x0}, {'e', 0}, {0, 0x301}, {0xAC00, 0}, {0x1100, 0}, {0, 0x1161}, {0, 0x11A8},
	} {
		makesNone(t, x[0], x[1])
	}
}

func TestWholeOfHangulPieces(t *testing.T) {
	for _, x := range [][2]int{
		{0x10FF, 0x1161}, {0x1113, 0x1161}, {0x1160, 0x1161}, {0x115F, 0x1161}, // no leading pieces
		{0x1100, 0x1160}, {0x1100, 0x1176}, {0x1112, 0x1160}, {0x1112, 0x1176}, // no vowels
		{0xAC00, 0x11A7}, {0xAC00, 0x11C3}, {0xAC00, 0x11A6}, {0xD788, 0x11A7}, {0xD788, 0x11C3}, // no last pieces
		{0xAC01, 0x11A8}, {0xAC01, 0x11A7}, {0xAC1B, 0x11C2}, {0xD7A3, 0x11A8}, {0xD789, 0x11C2}, // there is one already
		{0xABE4, 0x11A8}, {0xABFF, 0x11A8}, {0xD7A4, 0x11A8}, {0xD7C0, 0x11A8}, // no syllables
		{0x1161, 0x1100}, {0x11A8, 0xAC00}, {0x1100, 0x11A8}, {0xAC00, 0x1161}, {0x1161, 0x11A8}, {0x1100, 0x1100}, {0x1100, 0xAC00}, {0xAC00, 0xAC00}, // another order
		{0xAC00, 0x301}, {0x1100, 0x301}, {'e', 0x1161}, {'e', 0x11A8}, // nothing of both kinds
	} {
		makesNone(t, x[0], x[1])
	}
}

func TestWholeOfEveryPiece(t *testing.T) {
	all := joins(t)
	for first := 0x10F0; first < 0x1210 && !t.Failed(); first++ {
		for second := 0x10F0; second < 0x1210 && !t.Failed(); second++ {
			holds(t, first, second, all)
		}
	}
	for first := 0xABC0; first < 0xD7E0 && !t.Failed(); first++ {
		for second := 0x1150; second < 0x11D0 && !t.Failed(); second++ {
			holds(t, first, second, all)
		}
	}
}

func TestWholeWithEverySecond(t *testing.T) {
	all := joins(t)
	firsts := map[int]bool{0: true, 'x': true, 0x300: true, 0x212B: true, 0x10FF: true, 0x1100: true, 0x1112: true, 0x1113: true, 0xABFF: true, 0xAC00: true, 0xAC01: true, 0xAC1C: true, 0xD788: true, 0xD7A3: true, 0xD7A4: true}
	for _, p := range append(charted(t), twins...) {
		firsts[p.First] = true
	}
	for first := range firsts {
		for second := lowest; second < 0x3000 && !t.Failed(); second++ {
			holds(t, first, second, all)
		}
		for second := 0x3000; second < highest && !t.Failed(); second++ {
			makesNone(t, first, second)
		}
	}
}

func TestWholeWithEveryFirst(t *testing.T) {
	all := joins(t)
	for _, second := range []int{0, 'e', 0x300, 0x301, 0x302, 0x303, 0x304, 0x305, 0x306, 0x308, 0x30A, 0x30C, 0x323, 0x327, 0x340, 0x341, 0x345, 0x1160, 0x1161, 0x1175, 0x1176, 0x11A7, 0x11A8, 0x11C2, 0x11C3} {
		for first := lowest; first < highest && !t.Failed(); first++ {
			if first < 0xE000 {
				holds(t, first, second, all)
			} else {
				makesNone(t, first, second)
			}
		}
	}
}

func TestWholeFarAway(t *testing.T) {
	some := append(charted(t), twins...)
	for _, s := range [][3]int{{0, 0, 0}, {0, 0, 1}, {0, 1, 0}, {18, 20, 0}, {18, 20, 27}, {9, 9, 9}} {
		some = append(some, syllable(s[0], s[1], s[2]))
	}
	for _, p := range some {
		for _, away := range append(far(p.First), nowhere...) {
			makesNone(t, away, p.Second)
		}
		for _, away := range append(far(p.Second), nowhere...) {
			makesNone(t, p.First, away)
		}
		makesNone(t, p.Second, p.First+1<<32)
		makesNone(t, p.First+1<<32, p.Second-1<<32)
	}
	for _, first := range nowhere {
		for _, second := range nowhere {
			makesNone(t, first, second)
		}
	}
}

// P10.3

func TestWholeOfMade(t *testing.T) {
	n := 0
	for r := 0; r <= 0x10FFFF && !t.Failed(); r++ {
		first, second, ok := tables.Made(r)
		switch {
		case ok && second != 0:
			makes(t, first, second, r)
			n++
		case ok:
			makesNone(t, first, second)
			n++
		}
	}
	if n != 73+11172 {
		t.Errorf("%d scalars are made of something", n)
	}
}

func TestMadeOfWhole(t *testing.T) {
	seconds := []int{0x300, 0x301, 0x302, 0x303, 0x304, 0x306, 0x308, 0x30A, 0x30C, 0x323, 0x327}
	for r := 0x1161; r <= 0x1175; r++ {
		seconds = append(seconds, r)
	}
	for r := 0x11A8; r <= 0x11C2; r++ {
		seconds = append(seconds, r)
	}
	n := 0
	for first := 0; first <= 0x10FFFF && !t.Failed(); first++ {
		for _, second := range seconds {
			whole, ok := tables.Whole(first, second)
			if !ok {
				continue
			}
			n++
			if a, b, made := tables.Made(whole); a != first || b != second || !made {
				t.Errorf("Whole(%x, %x) = %x, made of %x, %x, %v", first, second, whole, a, b, made)
			}
		}
	}
	if n != 68+11172 {
		t.Errorf("%d pairs make something", n)
	}
}
