package order_test

import (
	"slices"
	"testing"

	"carding/order"
)

// parted gives the runs of scalars, as the words have it.
func parted(l []int) [][]int {
	var all [][]int
	for i, r := range l {
		if i == 0 || classOf(r) == 0 {
			all = append(all, nil)
		}
		all[len(all)-1] = append(all[len(all)-1], r)
	}
	return all
}

// runsAre holds Runs against what is wanted.
func runsAre(t *testing.T, l []int, want [][]int) {
	if got := order.Runs(l); !slices.EqualFunc(got, want, slices.Equal) {
		t.Helper()
		t.Errorf("Runs(%.99x) = %.99x; want %.99x", l, got, want)
	}
}

// P11.2

func TestRunsByHand(t *testing.T) {
	for _, want := range [][][]int{
		{}, {{'a'}}, {{0x301}}, {{0}}, // none, one scalar
		{{0x301}, {'a'}}, {{0x301, 0x327, 0x301}, {'a', 0x301}}, {{0x345, 0x338}}, // marks first, or alone
		{{'a'}, {'b'}, {'c'}}, {{'a'}, {'a'}}, // letters alone
		{{'a', 0x301}}, {{'a', 0x301, 0x327, 0x345}}, {{'a', 0x301}, {'b'}, {'c', 0x327, 0x327}, {'d'}}, // a letter with marks behind it
		{{0x301}, {'a', 0x301, 0x302}, {'b'}, {'c'}}, {{'a'}, {'b', 0x338}}, {{'a', 0x301}, {0x31A, 0x327}}, {{0xE9, 0x327}, {0x34F}},
		{{0x1100}, {0x1161}, {0x11A8}}, {{0xAC01, 0x301}, {0x212B, 0x340, 0x341}},
	} {
		runsAre(t, slices.Concat(want...), want)
	}
	runsAre(t, nil, nil)
	runsAre(t, []int{}, nil)
}

func TestRunsWithEachNumber(t *testing.T) {
	for r := -0x1000; r < 0x120000; r++ {
		if classOf(r) > 0 {
			runsAre(t, []int{'a', r, 'b'}, [][]int{{'a', r}, {'b'}})
			runsAre(t, []int{r, r}, [][]int{{r, r}})
		} else {
			runsAre(t, []int{'a', r, 0x301}, [][]int{{'a'}, {r, 0x301}})
		}
	}
}

func TestRunsOfNoScalars(t *testing.T) {
	runsAre(t, nowhere, parted(nowhere))
	for _, r := range nowhere {
		runsAre(t, []int{r}, [][]int{{r}})
		runsAre(t, []int{0x301, r, 0x327, r}, [][]int{{0x301}, {r, 0x327}, {r}})
	}
}

func TestRunsOfRows(t *testing.T) {
	all := rows(6, 'a', 'b', 0x301, 0x327, 0x338)
	all = append(all, rows(4, 'a', -1, 0x31A, 0xE9, 0x301, 0x315, 0x345)...)
	for _, l := range append(all, mixed(50000, 'a', 'b', 0x301, 0x327, 0x345)) {
		runsAre(t, l, parted(l))
		got := order.Runs(l)
		if together := slices.Concat(got...); !order.Same(together, l) { // P11.3
			t.Errorf("Runs(%.99x), put together: %.99x", l, together)
		}
		for i, run := range got {
			if len(run) == 0 || i > 0 && classOf(run[0]) > 0 || slices.ContainsFunc(run[1:], func(r int) bool { return classOf(r) == 0 }) {
				t.Errorf("Runs(%.99x) has %.99x", l, run)
			}
		}
	}
}

// R4

func TestRunsChangeNothing(t *testing.T) {
	for _, x := range [][]int{{}, {'a'}, {0x301}, {'a', 0x301, 0x327}, {0x301, 'a', 0x301, 'b', 'c', 0x327}, nowhere} {
		l, check := laid(t, x...)
		got := order.Runs(l)
		check("Runs")
		for i := range got {
			spoil(got[i])
			for j, run := range got[i+1:] {
				is(t, "a run, behind writing to one ahead of it", run, parted(x)[i+1+j])
			}
		}
		check("Runs, behind writing")
		other := order.Runs(l)
		spoil(l)
		if !slices.EqualFunc(other, parted(x), slices.Equal) {
			t.Errorf("Runs(%x) = %x behind writing to what was handed in", x, other)
		}
	}
}

func TestRunsShareNothing(t *testing.T) {
	l := []int{0x301, 'a', 0x301, 'b', 'c', 0x327}
	a, b := order.Runs(l), order.Runs(l)
	for i := range a {
		a[i] = append(a[i], -1, -2, -3)
	}
	for i, run := range parted(l) {
		is(t, "a run that was put behind", a[i], append(run, -1, -2, -3))
	}
	runsAre(t, l, b)
}
