package tables_test

import (
	"testing"

	"carding/tables"
)

// isHangul holds Hangul of a number against whether it is a syllable.
func isHangul(t *testing.T, r int, want bool) {
	if tables.Hangul(r) != want {
		t.Helper()
		t.Errorf("Hangul(%x) = %v", r, !want)
	}
}

// P10.1

func TestHangulAtEdges(t *testing.T) {
	for _, r := range []int{0xAC00, 0xAC01, 0xAC1B, 0xAC1C, 0xAC1D, 0xC000, 0xD788, 0xD7A2, 0xD7A3} {
		isHangul(t, r, true)
	}
	for _, r := range []int{0xABFF, 0xABFE, 0xA000, 0xD7A4, 0xD7A5, 0xD7B0, 0xD7FF, 0xD800, 0xE000, 0x1100, 0x1112, 0x1161, 0x1175, 0x11A7, 0x11A8, 0x11C2, 0x3131, 0xC0, 'a', 0x300, 0x212B} {
		isHangul(t, r, false)
	}
}

func TestHangulOfEveryNumber(t *testing.T) {
	n := 0
	for r := lowest; r < highest && !t.Failed(); r++ {
		isHangul(t, r, r >= 0xAC00 && r <= 0xD7A3)
		if tables.Hangul(r) {
			n++
		}
	}
	if n != 11172 {
		t.Errorf("%d syllables", n)
	}
}

func TestHangulFarAway(t *testing.T) {
	for _, r := range nowhere {
		isHangul(t, r, false)
	}
	for _, s := range []int{0xAC00, 0xAC01, 0xAC1C, 0xC000, 0xD788, 0xD7A3} {
		for _, r := range far(s) {
			isHangul(t, r, false)
		}
		isHangul(t, s+1<<16, false)
	}
}
