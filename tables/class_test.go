package tables_test

import (
	"strconv"
	"strings"
	"testing"

	"carding/tables"
)

// run is a range of marks, and their class.
type run struct{ from, to, class int }

// runs gives the runs of the words, a single mark as a run of one.
func runs(t *testing.T) []run {
	t.Helper()
	var l []run
	for _, part := range strings.Split(words, "; ") {
		marks, class, _ := strings.Cut(part, ": ")
		c, err := strconv.Atoi(class)
		if err != nil {
			t.Fatal(err)
		}
		for _, m := range strings.Split(marks, ", ") {
			from, to, two := strings.Cut(m, " to ")
			if !two {
				to = from
			}
			l = append(l, run{number(t, from), number(t, to), c})
		}
	}
	return l
}

// classOf gives a number's class, as the words have it.
func classOf(r int, l []run) int {
	for _, x := range l {
		if x.from <= r && r <= x.to {
			return x.class
		}
	}
	return 0
}

// isOf holds Class and Mark of a number against its class.
func isOf(t *testing.T, r, class int) {
	got, mark := tables.Class(r), tables.Mark(r)
	if got != class || mark != (class != 0) {
		t.Helper()
		t.Errorf("Class(%x) = %d, Mark = %v; want %d", r, got, mark, class)
	}
}

// P10.1

func TestClassAtEdges(t *testing.T) {
	l := runs(t)
	for _, x := range l {
		isOf(t, x.from, x.class)
		isOf(t, x.to, x.class)
		isOf(t, x.from-1, classOf(x.from-1, l))
		isOf(t, x.to+1, classOf(x.to+1, l))
	}
}

func TestClassByNumber(t *testing.T) {
	for _, x := range []struct{ r, class int }{
		{0x2FF, 0}, {0x300, 230}, {0x301, 230}, {0x302, 230}, {0x303, 230}, {0x304, 230}, {0x305, 230}, {0x306, 230}, {0x307, 230}, {0x308, 230}, {0x309, 230},
		{0x30A, 230}, {0x30B, 230}, {0x30C, 230}, {0x30D, 230}, {0x30E, 230}, {0x30F, 230}, {0x310, 230}, {0x311, 230}, {0x312, 230}, {0x313, 230}, {0x314, 230},
		{0x315, 232}, {0x316, 220}, {0x317, 220}, {0x318, 220}, {0x319, 220}, {0x31A, 0}, {0x31B, 216}, {0x31C, 0}, {0x321, 0}, {0x322, 0},
		{0x323, 220}, {0x324, 220}, {0x325, 220}, {0x326, 220}, {0x327, 202}, {0x328, 202}, {0x329, 0}, {0x32D, 0}, {0x334, 0}, {0x337, 0}, {0x338, 1}, {0x339, 0},
		{0x33F, 0}, {0x340, 230}, {0x341, 230}, {0x342, 0}, {0x343, 0}, {0x344, 0}, {0x345, 240}, {0x346, 0}, {0x35D, 0}, {0x36F, 0},
		{'a', 0}, {' ', 0}, {0xC0, 0}, {0xE9, 0}, {0x212B, 0}, {0x1100, 0}, {0x1161, 0}, {0x11A8, 0}, {0x11A7, 0}, {0xAC00, 0}, {0xD7A3, 0}, {0x591, 0}, {0x3099, 0}, {0x1D165, 0},
	} {
		isOf(t, x.r, x.class)
	}
}

func TestClassOfEveryNumber(t *testing.T) {
	l := runs(t)
	for r := lowest; r < highest && !t.Failed(); r++ {
		isOf(t, r, classOf(r, l))
	}
}

func TestClassFarAway(t *testing.T) {
	for _, r := range nowhere {
		isOf(t, r, 0)
	}
	for _, x := range runs(t) {
		for _, r := range append(far(x.from), far(x.to)...) {
			isOf(t, r, 0)
		}
	}
}
