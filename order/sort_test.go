package order_test

import (
	"maps"
	"slices"
	"testing"

	"carding/order"
)

// inOrder tells whether scalars are in order, as the words have it.
func inOrder(l []int) bool {
	for i := 1; i < len(l); i++ {
		if c := classOf(l[i]); c > 0 && classOf(l[i-1]) > c {
			return false
		}
	}
	return true
}

// changed gives scalars whose neighbours changed places till none did, as the words have it.
func changed(l []int) []int {
	l = slices.Clone(l)
	for moved := true; moved; {
		moved = false
		for i := 1; i < len(l); i++ {
			if c := classOf(l[i]); c > 0 && classOf(l[i-1]) > c {
				l[i-1], l[i] = l[i], l[i-1]
				moved = true
			}
		}
	}
	return l
}

// sorts holds Sort and Ordered against the words, and against what follows of them.
func sorts(t *testing.T, l []int) {
	t.Helper()
	want := changed(l)
	got := order.Sort(l)
	is(t, "Sort", got, want)
	if order.Ordered(l) != inOrder(l) {
		t.Errorf("Ordered(%.99x) = %v", l, !inOrder(l))
	}
	if !order.Ordered(got) || !order.Same(order.Sort(got), got) || order.Ordered(l) != order.Same(l, got) {
		t.Errorf("Sort(%.99x) = %.99x is not in order", l, got)
	}
	if !maps.Equal(counted(l), counted(got)) {
		t.Errorf("Sort(%.99x) = %.99x are other scalars", l, got)
	}
	var parts []int
	for _, run := range order.Runs(l) {
		parts = append(parts, order.Sort(run)...)
	}
	is(t, "Sort, run by run", parts, got)
}

// allMarks gives all numbers with a class above 0.
func allMarks() []int {
	var l []int
	for r := 0x2FF; r < 0x400; r++ {
		if classOf(r) > 0 {
			l = append(l, r)
		}
	}
	return l
}

// P11.2

func TestSortByHand(t *testing.T) {
	for _, x := range [][2][]int{
		{nil, nil}, {{}, {}}, {{'a'}, {'a'}}, {{0x301}, {0x301}}, {{'c', 'b', 'a'}, {'c', 'b', 'a'}}, // none, one, letters alone
		{{'a', 0x301, 0x327}, {'a', 0x327, 0x301}}, {{'a', 0x327, 0x301}, {'a', 0x327, 0x301}}, // unlike classes in both orders
		{{0x301, 0x327}, {0x327, 0x301}}, {{0x301, 0x327, 'a'}, {0x327, 0x301, 'a'}}, {{0x301, 0x327, 'a', 0x301, 0x327}, {0x327, 0x301, 'a', 0x327, 0x301}}, // marks ahead of all letters
		{{'a', 0x301, 0x300}, {'a', 0x301, 0x300}}, {{'a', 0x300, 0x301}, {'a', 0x300, 0x301}}, {{'a', 0x341, 0x301, 0x340}, {'a', 0x341, 0x301, 0x340}}, {{'a', 0x323, 0x316, 0x326, 0x319}, {'a', 0x323, 0x316, 0x326, 0x319}}, // marks of one class
		{{'a', 0x328, 0x327}, {'a', 0x328, 0x327}}, {{'a', 0x301, 0x328, 0x300, 0x327}, {'a', 0x328, 0x327, 0x301, 0x300}},
		{{'a', 0x301, 0x327, 0x323, 'b', 0x302, 0x301}, {'a', 0x327, 0x323, 0x301, 'b', 0x302, 0x301}}, {{'a', 0x345, 0x315, 0x301, 0x323, 0x31B, 0x327, 0x338}, {'a', 0x338, 0x327, 0x31B, 0x323, 0x301, 0x315, 0x345}}, // three and more
		{{'a', 0x301, 'b', 0x327}, {'a', 0x301, 'b', 0x327}}, {{0x301, 0x34F, 0x327}, {0x301, 0x34F, 0x327}}, {{0x301, 0x31A, 0x327}, {0x301, 0x31A, 0x327}}, {{'a', 0x301, 0x327, 0x31A, 0x301, 0x327}, {'a', 0x327, 0x301, 0x31A, 0x327, 0x301}}, // one of class 0 between marks
		{{0xE9, 0x327}, {0xE9, 0x327}}, {{0xE7, 0x301, 0x323}, {0xE7, 0x323, 0x301}}, {{0xAC01, 0x301, 0x327}, {0xAC01, 0x327, 0x301}}, {{0x212B, 0x1100}, {0x212B, 0x1100}}, // nothing is taken apart
	} {
		is(t, "Sort", order.Sort(x[0]), x[1])
		if order.Ordered(x[0]) != slices.Equal(x[0], x[1]) || !order.Ordered(x[1]) {
			t.Errorf("Ordered(%x) = %v, Ordered(%x) = %v", x[0], order.Ordered(x[0]), x[1], order.Ordered(x[1]))
		}
		sorts(t, x[0])
	}
}

func TestEachClassAgainstEachOther(t *testing.T) {
	rising := []int{0x338, 0x327, 0x31B, 0x323, 0x301, 0x315, 0x345}
	for i, a := range rising {
		for j, b := range rising {
			want := []int{'x', a, b}
			if j < i {
				want = []int{'x', b, a}
			}
			is(t, "Sort", order.Sort([]int{'x', a, b}), want)
			is(t, "Sort", order.Sort([]int{a, b}), want[1:])
			if order.Ordered([]int{'x', a, b}) != (i <= j) || order.Ordered([]int{a, b, 'x'}) != (i <= j) {
				t.Errorf("Ordered of %x, %x = %v", a, b, i > j)
			}
			if !order.Ordered([]int{a, 'x', b}) {
				t.Errorf("a letter between %x, %x", a, b)
			}
		}
	}
	back := slices.Clone(rising)
	slices.Reverse(back)
	is(t, "Sort", order.Sort(back), rising)
}

func TestSortEachTwo(t *testing.T) {
	for a := 0x2FC; a < 0x350; a++ {
		for b := 0x2FC; b < 0x350; b++ {
			sorts(t, []int{a, b})
			sorts(t, []int{'a', a, b, 'c'})
		}
	}
}

func TestSortRows(t *testing.T) {
	for _, l := range rows(5, 'a', 0x301, 0x300, 0x327, 0x328, 0x338, 0x345) {
		sorts(t, l)
	}
	for _, l := range rows(4, 'b', -1, 0x31A, 0x301, 0x315, 0x323, 0x319, 0x31B, 0x341, 0xE9) {
		sorts(t, l)
	}
}

func TestSortLongRows(t *testing.T) {
	marks := allMarks()
	if len(marks) != 23+1+8+1+2+1+1 {
		t.Fatal(len(marks))
	}
	for _, n := range []int{11, 12, 13, 20, 21, 40, 100, 300, 700} {
		sorts(t, mixed(n, marks...))
		sorts(t, append([]int{'a'}, mixed(n, marks...)...))
		sorts(t, mixed(n, 0x301, 0x327, 0x300))
		sorts(t, mixed(n, append(marks, 'a', 'b', 0xE9, 0x31A)...))
	}
	back := slices.Clone(marks)
	slices.Reverse(back)
	sorts(t, slices.Repeat(back, 9))
}

func TestSortGreatRows(t *testing.T) {
	const n = 300000
	l := order.Sort(append([]int{'a'}, mixed(n, allMarks()...)...))
	if len(l) != n+1 || l[0] != 'a' || !inOrder(l) || !order.Ordered(l) {
		t.Error("one great run")
	}
	l = order.Sort(slices.Repeat([]int{'a', 0x301, 0x327}, n))
	if !slices.Equal(l, slices.Repeat([]int{'a', 0x327, 0x301}, n)) || !order.Ordered(l) {
		t.Error("many short runs")
	}
	l[len(l)-1], l[len(l)-2] = 0x327, 0x301
	if order.Ordered(l) {
		t.Error("the last two out of order")
	}
}

func TestOrdered(t *testing.T) {
	for _, l := range [][]int{nil, {}, {'a'}, {0x345}, {'b', 'a'}, {0x327, 0x301}, {0x327, 0x301, 'a', 0x327}, {'a', 0x301, 'b', 0x327}, {'a', 0x301, 0x301, 0x300}, {0x338, 0x327, 0x31B, 0x323, 0x301, 0x315, 0x345}, {0x345, -1, 0x338}, nowhere} {
		if !order.Ordered(l) {
			t.Errorf("%x are not in order", l)
		}
	}
	for _, l := range [][]int{{0x301, 0x327}, {'a', 0x301, 0x327}, {0x301, 0x327, 'a'}, {'a', 0x327, 0x301, 0x323}, {'a', 0x301, 0x300, 0x323}, {'a', 0x327, 'b', 0x345, 0x315}, {'a', 0x301, 0x338, 0x345}, {'a', 0x315, 0x301}} {
		if order.Ordered(l) {
			t.Errorf("%x are in order", l)
		}
	}
}

func TestSortOfNoScalars(t *testing.T) {
	sorts(t, nowhere)
	is(t, "Sort", order.Sort(nowhere), nowhere)
	for _, r := range nowhere {
		is(t, "Sort", order.Sort([]int{r}), []int{r})
		is(t, "Sort", order.Sort([]int{0x301, r, 0x327}), []int{0x301, r, 0x327}) // of class 0
		is(t, "Sort", order.Sort([]int{r, 0x301, 0x327, r}), []int{r, 0x327, 0x301, r})
		if !order.Ordered([]int{r}) || !order.Ordered([]int{0x345, r, 0x338}) || order.Ordered([]int{r, 0x345, 0x338}) {
			t.Errorf("Ordered with %x", r)
		}
	}
}

// R4

func TestSortChangesNothing(t *testing.T) {
	for _, x := range [][]int{{}, {'a'}, {0x301}, {'a', 'b'}, {'a', 0x327, 0x301}, {'a', 0x301, 0x327}, {0x301, 0x327, 'a', 0x345, 0x338}, nowhere} {
		l, check := laid(t, x...)
		got := order.Sort(l)
		order.Ordered(l)
		check("Sort")
		want := slices.Clone(got)
		other := order.Sort(l)
		spoil(got)
		check("Sort, behind writing")
		is(t, "another answer, behind writing", other, want)
		spoil(l)
		is(t, "an answer, behind writing to what was handed in", other, want)
	}
}
