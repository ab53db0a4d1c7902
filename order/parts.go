package order

import "carding/tables"

// origin is what tables.Made tells of a scalar.
type origin struct {
	first, second int
	some          bool
}

// taken is scalars that were taken apart.
type taken struct {
	parts []int
	known map[int]origin // a scalar is asked of but once, since tables.Made makes its map anew for each call
}

// takeApart gives the parts of scalars, one behind the other.
func takeApart(l ...int) []int {
	t := taken{known: map[int]origin{}}
	for _, r := range l {
		t.put(r)
	}
	return t.parts
}

// put puts a scalar's parts behind those that are there.
func (t *taken) put(r int) {
	o := t.originOf(r)
	if !o.some {
		t.parts = append(t.parts, r)
		return
	}
	t.put(o.first)
	if o.second != 0 { // a double has but one part
		t.put(o.second)
	}
}

// originOf gives what a scalar is made of.
func (t *taken) originOf(r int) origin {
	o, ok := t.known[r]
	if !ok {
		o.first, o.second, o.some = tables.Made(r)
		t.known[r] = o
	}
	return o
}
