package order

import (
	"cmp"
	"iter"

	"carding/tables"
)

// runs goes over the runs of scalars; what it tells are pieces of the list itself.
func runs(l []int) iter.Seq[[]int] {
	return func(yield func(run []int) bool) {
		from := 0
		for at, r := range l {
			if at == 0 || tables.Mark(r) {
				continue
			}
			if !yield(l[from:at]) {
				return
			}
			from = at
		}
		if from < len(l) {
			yield(l[from:])
		}
	}
}

// byClass holds two scalars of a run against each other. Only its first one may be of class 0, so that one stays where it is.
func byClass(a, b int) int {
	return cmp.Compare(tables.Class(a), tables.Class(b))
}
