package order_test

import (
	"math"
	"slices"
	"testing"

	"carding/order"
)

// nowhere are numbers that nothing is told of: below 0, halves of pairs, and others that are no scalars, or would be marks, had they fewer bits, or no sign.
var nowhere = []int{
	math.MinInt, math.MinInt + 1, math.MinInt32, math.MinInt16, -0x10FFFF, -0x301, -0x300, -2, -1, 0,
	0xD800, 0xDBFF, 0xDC00, 0xDFFF, 0x110000, 0x200000, math.MaxInt32, math.MaxUint32, math.MaxInt - 1, math.MaxInt,
	0x301 + 1<<16, 0x301 + 1<<21, 0x301 + 1<<32, 0x301 - 1<<32, 0x301 + math.MinInt, 0xE9 + 1<<16, 0xE9 + 1<<32, 0xE9 - 1<<32, 0xE9 + math.MinInt,
	0xAC01 + 1<<16, 0xAC01 + 1<<32, 0xAC01 - 1<<32, 0x212B + 1<<32, ^0x301, ^0xE9,
}

// classOf gives a number's class, as chapter 10 has it.
func classOf(r int) int {
	in := func(from, to int) bool { return from <= r && r <= to }
	switch {
	case in(0x300, 0x314), in(0x340, 0x341):
		return 230
	case in(0x315, 0x315):
		return 232
	case in(0x316, 0x319), in(0x323, 0x326):
		return 220
	case in(0x31B, 0x31B):
		return 216
	case in(0x327, 0x328):
		return 202
	case in(0x338, 0x338):
		return 1
	case in(0x345, 0x345):
		return 240
	}
	return 0
}

// is holds a list against what is wanted.
func is(t *testing.T, what string, got, want []int) {
	if !slices.Equal(got, want) {
		t.Helper()
		t.Errorf("%s = %x; want %x", what, got, want)
	}
}

// rows gives all rows of up to n of some scalars.
func rows(n int, of ...int) [][]int {
	all := [][]int{nil}
	for from := 0; n > 0; n-- {
		shorter := all[from:]
		from = len(all)
		for _, l := range shorter {
			for _, r := range of {
				all = append(all, append(slices.Clone(l), r))
			}
		}
	}
	return all
}

// mixed gives a long row of some scalars, in an order that is nothing's, but always the same.
func mixed(n int, of ...int) []int {
	l, state := make([]int, 0, n), uint32(n)
	for range n {
		state = state*1664525 + 1013904223
		l = append(l, of[int(state>>16)%len(of)])
	}
	return l
}

// counted tells how often each scalar is there.
func counted(l []int) map[int]int {
	m := map[int]int{}
	for _, r := range l {
		m[r]++
	}
	return m
}

// laid gives a list with spare room behind it, and a check that neither was changed.
func laid(t *testing.T, l ...int) ([]int, func(what string)) {
	t.Helper()
	whole := append(slices.Clone(l), 'x', 0x301, 0x327, 0xE9, -7, 0, 0, 0)
	before := slices.Clone(whole)
	return whole[:len(l)], func(what string) {
		t.Helper()
		is(t, "what was handed to "+what, whole, before)
	}
}

// spoil writes to all of a list, and to the room behind it.
func spoil(l []int) {
	l = l[:cap(l)]
	for i := range l {
		l[i] = -99
	}
}

// P11.1

func TestSame(t *testing.T) {
	for _, l := range [][]int{nil, {}, {0}, {'a'}, {'a', 0x301}, {0x301, 'a'}, {'a', 'a', 'a'}, nowhere, mixed(5000, 'a', 0x301, 0xAC00)} {
		if !order.Same(l, l) || !order.Same(l, slices.Clone(l)) || !order.Same(append([]int{}, l...), l) {
			t.Errorf("%.60x is not the same", l)
		}
	}
	if !order.Same(nil, nil) || !order.Same(nil, []int{}) || !order.Same([]int{}, nil) || !order.Same([]int{}, []int{}) {
		t.Error("nil and empty are not the same")
	}
	if !order.Same(make([]int, 2, 9), make([]int, 2)) {
		t.Error("room counts")
	}
}

func TestNotSame(t *testing.T) {
	for _, x := range [][2][]int{
		{nil, {'a'}}, {{}, {0}}, {nil, {0, 0}}, // none, and some
		{{'a'}, {'a', 0x301}}, {{'a'}, {'a', 'a'}}, {{'a'}, {'a', 0}}, {{'a', 0x301}, {'a', 0x301, 0x327}}, // one is the beginning of the other one
		{{0x301}, {'a', 0x301}}, {{'b', 'c'}, {'a', 'b', 'c'}}, // or its end
		{{'a'}, {'b'}}, {{'a', 'b', 'c'}, {'x', 'b', 'c'}}, {{'a', 'b', 'c'}, {'a', 'x', 'c'}}, {{'a', 'b', 'c'}, {'a', 'b', 'x'}}, // alike but for one scalar
		{{'a', 'b'}, {'b', 'a'}}, {{'a', 0x301, 0x327}, {'a', 0x327, 0x301}}, {{'a', 'a', 'b'}, {'a', 'b', 'b'}}, // in another order, or another number of them
		{{0xE9}, {'e', 0x301}}, {{0x212B}, {0xC5}}, {{0x340}, {0x300}}, {{'a'}, {'A'}}, // other scalars for the same
		{{1}, {-1}}, {{0}, {math.MinInt}}, {{0x301}, {0x301 + 1<<32}}, {{0x61}, {0x61 + 1<<16}}, {{0x61}, {0x61 + 1<<8}}, {{math.MaxInt}, {math.MinInt}}, {{-1}, {math.MaxUint32}},
	} {
		if order.Same(x[0], x[1]) || order.Same(x[1], x[0]) {
			t.Errorf("%x and %x are the same", x[0], x[1])
		}
	}
	long := mixed(5000, 'a', 0x301, 0xAC00)
	for _, at := range []int{0, 1, 2500, 4998, 4999} {
		other := slices.Clone(long)
		other[at]++
		if order.Same(long, other) || order.Same(long, long[:at]) || order.Same(long[:at], long) {
			t.Errorf("alike up to %d, and the same", at)
		}
	}
}

func TestSameOfAllRows(t *testing.T) {
	all := rows(4, 'a', 0x301, 0xE9)
	for i, a := range all {
		for j, b := range all {
			if order.Same(a, b) != (i == j) {
				t.Errorf("Same(%x, %x) = %v", a, b, i != j)
			}
		}
	}
}

func TestSameChangesNothing(t *testing.T) {
	a, checkA := laid(t, 'a', 0x301, 0x327)
	b, checkB := laid(t, 'a', 0x327, 0x301)
	order.Same(a, b)
	order.Same(b[:2], a[:1])
	checkA("Same")
	checkB("Same")
}
