package disk_test

import (
	"fmt"
	"math"
	"strings"
	"testing"

	"carding/api"
	"carding/disk"
)

// up is a disk of that room that is neither armed nor down.
func up(room int, a, b api.Zone) api.Disk {
	return api.Disk{Zones: [2]api.Zone{a, b}, Cap: room, Left: -1}
}

func add(zone int, b string) api.Write {
	return api.Write{Op: api.WrAppend, Zone: zone, B: b}
}

func syncs(zone int) api.Write {
	return api.Write{Op: api.WrSync, Zone: zone}
}

func shorten(zone, n int) api.Write {
	return api.Write{Op: api.WrShorten, Zone: zone, N: n}
}

// wrongDisks are disks that may not be, each by one field alone, and then down or armed, too.
func wrongDisks() map[string]api.Disk {
	full := strings.Repeat("x", api.MaxZone)
	alone := map[string]api.Disk{
		"room below 0":        up(-1, api.Zone{}, api.Zone{}),
		"least room":          up(math.MinInt, api.Zone{}, api.Zone{}),
		"room above MaxZone":  up(api.MaxZone+1, api.Zone{}, api.Zone{}),
		"greatest room":       up(math.MaxInt, api.Zone{}, api.Zone{}),
		"zone 0 above room":   up(2, api.Zone{B: "abc"}, api.Zone{}),
		"zone 1 above room":   up(2, api.Zone{}, api.Zone{B: "abc"}),
		"zone above MaxZone":  up(api.MaxZone, api.Zone{B: full + "x"}, api.Zone{}),
		"no room, one byte":   up(0, api.Zone{}, api.Zone{B: "a"}),
		"zone 0 sure below 0": up(5, api.Zone{B: "ab", Sure: -1}, api.Zone{}),
		"zone 1 sure below 0": up(5, api.Zone{}, api.Zone{B: "ab", Sure: -1}),
		"zone 0 sure past it": up(5, api.Zone{B: "ab", Sure: 3}, api.Zone{}),
		"zone 1 sure past it": up(5, api.Zone{}, api.Zone{B: "ab", Sure: 3}),
		"empty, one sure":     up(5, api.Zone{Sure: 1}, api.Zone{}),
		"greatest sure":       up(5, api.Zone{B: "ab", Sure: math.MaxInt}, api.Zone{}),
		"least sure":          up(5, api.Zone{}, api.Zone{B: "ab", Sure: math.MinInt}),
	}
	all := map[string]api.Disk{}
	for name, d := range alone {
		all[name] = d
		d.Left = 0
		all[name+", also at its end"] = d
		d.Down = true
		all[name+", also down"] = d
	}
	return all
}

// noWrites are no operations on any disk whose zones have at most two bytes.
func noWrites() map[string]api.Write {
	return map[string]api.Write{
		"nothing appended":         {Op: api.WrAppend},
		"append in zone 2":         add(2, "a"),
		"append in zone -1":        add(-1, "a"),
		"append in greatest zone":  add(math.MaxInt, "a"),
		"append in least zone":     add(math.MinInt, "a"),
		"append that names N":      {Op: api.WrAppend, B: "a", N: 1},
		"append, N below 0":        {Op: api.WrAppend, B: "a", N: -1},
		"sync in zone 2":           syncs(2),
		"sync in zone -1":          syncs(-1),
		"sync that names B":        {Op: api.WrSync, B: "a"},
		"sync that names N":        {Op: api.WrSync, N: 1},
		"sync, N below 0":          {Op: api.WrSync, N: -1},
		"shorten in zone 2":        shorten(2, 0),
		"shorten in zone -1":       shorten(-1, 0),
		"shorten that names B":     {Op: api.WrShorten, B: "a"},
		"shorten to below 0":       shorten(0, -1),
		"shorten to least":         shorten(0, math.MinInt),
		"shorten past the end":     shorten(0, 3),
		"shorten zone 1 past it":   shorten(1, 3),
		"shorten to greatest":      shorten(0, math.MaxInt),
		"kind 3":                   {Op: 3},
		"kind 3 with bytes":        {Op: 3, B: "a"},
		"kind -1":                  {Op: -1},
		"kind -1 with bytes":       {Op: -1, B: "a"},
		"greatest kind":            {Op: math.MaxInt8, B: "a"},
		"least kind":               {Op: math.MinInt8, B: "a"},
		"kind 3 in a wrong zone":   {Op: 3, Zone: 2},
		"append in zone 256":       add(256, "a"),
		"append, too long, with N": {Op: api.WrAppend, B: "abcdefgh", N: 1},
	}
}

// wants holds a disk and an error against what they should be.
func wants(t *testing.T, name string, d api.Disk, e api.Errno, want api.Disk, wantE api.Errno) {
	t.Helper()
	if d != want || e != wantE {
		t.Errorf("%s: got %.200s, error %d; want %.200s, error %d", name, fmt.Sprintf("%+v", d), e, fmt.Sprintf("%+v", want), wantE)
	}
}

// P1.1

func TestNew(t *testing.T) {
	for _, most := range []int{0, 1, 9, api.MaxZone - 1, api.MaxZone} {
		d, e := disk.New(most)
		wants(t, "right", d, e, api.Disk{Cap: most, Left: -1}, api.OK)
		if disk.Check(d) != api.OK {
			t.Error(most, "may not be")
		}
	}
	for _, most := range []int{-1, api.MaxZone + 1, math.MinInt, math.MaxInt, 1 << 32, math.MinInt + 1} {
		d, e := disk.New(most)
		wants(t, "wrong", d, e, api.Disk{}, api.ErrArg)
	}
}

func TestCheck(t *testing.T) {
	full := strings.Repeat("x", api.MaxZone)
	right := []api.Disk{
		{},
		up(0, api.Zone{}, api.Zone{}),
		up(2, api.Zone{B: "ab"}, api.Zone{B: "ab"}),
		up(2, api.Zone{B: "ab", Sure: 2}, api.Zone{B: "ab", Sure: 2}),
		up(3, api.Zone{B: "ab", Sure: 1}, api.Zone{}),
		up(api.MaxZone, api.Zone{B: full}, api.Zone{B: full, Sure: api.MaxZone}),
		{Cap: 2, Left: math.MaxInt},
		{Cap: 2, Left: math.MinInt},
		{Cap: 2, Left: 0, Down: true},
		{Cap: 2, Left: 7, Down: true},
	}
	for _, d := range right {
		if e := disk.Check(d); e != api.OK {
			t.Errorf("%+v: error %d", d, e)
		}
	}
	for name, d := range wrongDisks() {
		if e := disk.Check(d); e != api.ErrArg {
			t.Errorf("%s: error %d", name, e)
		}
	}
}

func TestSame(t *testing.T) {
	d := api.Disk{Zones: [2]api.Zone{{B: "ab", Sure: 1}, {B: "cd", Sure: 1}}, Cap: 5, Left: 2}
	if !disk.Same(d, d) || !disk.Same(api.Disk{}, api.Disk{}) {
		t.Error("the same disks are not the same")
	}
	for name, change := range map[string]func(*api.Disk){
		"bytes of zone 0":    func(d *api.Disk) { d.Zones[0].B = "ax" },
		"bytes of zone 1":    func(d *api.Disk) { d.Zones[1].B = "cx" },
		"length of zone 0":   func(d *api.Disk) { d.Zones[0].B = "abc" },
		"what is sure of 0":  func(d *api.Disk) { d.Zones[0].Sure = 2 },
		"what is sure of 1":  func(d *api.Disk) { d.Zones[1].Sure = 0 },
		"zones turned about": func(d *api.Disk) { d.Zones[0], d.Zones[1] = d.Zones[1], d.Zones[0] },
		"room":               func(d *api.Disk) { d.Cap = 6 },
		"left":               func(d *api.Disk) { d.Left = 1 },
		"down":               func(d *api.Disk) { d.Down = true },
	} {
		o := d
		change(&o)
		if disk.Same(d, o) || disk.Same(o, d) {
			t.Error(name, "makes no difference")
		}
	}
	below, end := d, d
	below.Left, end.Left = -2, -1
	if disk.Same(below, end) {
		t.Error("numbers below 0 are alike")
	}
}

// P1.2

func TestDo(t *testing.T) {
	d := up(5, api.Zone{B: "abc", Sure: 1}, api.Zone{B: "x"})
	with := func(a, b api.Zone) api.Disk { return up(5, a, b) }
	for name, x := range map[string]struct {
		w    api.Write
		want api.Disk
	}{
		"append":             {add(0, "d"), with(api.Zone{B: "abcd", Sure: 1}, d.Zones[1])},
		"append to zone 1":   {add(1, "yz"), with(d.Zones[0], api.Zone{B: "xyz"})},
		"append, then full":  {add(0, "de"), with(api.Zone{B: "abcde", Sure: 1}, d.Zones[1])},
		"append a nought":    {add(0, "\x00"), with(api.Zone{B: "abc\x00", Sure: 1}, d.Zones[1])},
		"append no UTF-8":    {add(1, "\xff\xc3"), with(d.Zones[0], api.Zone{B: "x\xff\xc3"})},
		"sync":               {syncs(0), with(api.Zone{B: "abc", Sure: 3}, d.Zones[1])},
		"sync of zone 1":     {syncs(1), with(d.Zones[0], api.Zone{B: "x", Sure: 1})},
		"shorten, sure left": {shorten(0, 2), with(api.Zone{B: "ab", Sure: 2}, d.Zones[1])},
		"shorten to sure":    {shorten(0, 1), with(api.Zone{B: "a", Sure: 1}, d.Zones[1])},
		"shorten to nothing": {shorten(0, 0), with(api.Zone{}, d.Zones[1])},
		"shorten to all":     {shorten(0, 3), with(api.Zone{B: "abc", Sure: 3}, d.Zones[1])},
		"shorten zone 1":     {shorten(1, 0), with(d.Zones[0], api.Zone{})},
		"shorten 1 to all":   {shorten(1, 1), with(d.Zones[0], api.Zone{B: "x", Sure: 1})},
	} {
		o, e := disk.Do(d, x.w)
		wants(t, name, o, e, x.want, api.OK)
	}
	if d != up(5, api.Zone{B: "abc", Sure: 1}, api.Zone{B: "x"}) {
		t.Error("what was handed in is changed")
	}
}

func TestDoOnEmptyZones(t *testing.T) {
	d := up(0, api.Zone{}, api.Zone{})
	for _, w := range []api.Write{syncs(0), syncs(1), shorten(0, 0), shorten(1, 0)} {
		o, e := disk.Do(d, w)
		wants(t, "no room", o, e, d, api.OK)
	}
	o, e := disk.Do(d, add(0, "a"))
	wants(t, "append without room", o, e, api.Disk{}, api.ErrFull)
}

func TestDoFull(t *testing.T) {
	d := up(3, api.Zone{B: "ab"}, api.Zone{B: "abc"})
	o, e := disk.Do(d, add(0, "c"))
	wants(t, "just full", o, e, up(3, api.Zone{B: "abc"}, d.Zones[1]), api.OK)
	for _, w := range []api.Write{add(0, "cd"), add(1, "d"), add(0, strings.Repeat("x", api.MaxZone+1))} {
		o, e := disk.Do(d, w)
		wants(t, "a byte more", o, e, api.Disk{}, api.ErrFull)
	}
	big := up(api.MaxZone, api.Zone{}, api.Zone{})
	all := strings.Repeat("x", api.MaxZone)
	o, e = disk.Do(big, add(1, all))
	wants(t, "the greatest zone", o, e, up(api.MaxZone, api.Zone{}, api.Zone{B: all}), api.OK)
	o, e = disk.Do(o, add(1, "x"))
	wants(t, "a byte above the greatest", o, e, api.Disk{}, api.ErrFull)
	armed := d
	armed.Left = 1
	o, e = disk.Do(armed, add(1, "d"))
	wants(t, "full and armed", o, e, api.Disk{}, api.ErrFull)
}

func TestDoLeft(t *testing.T) {
	for _, w := range []api.Write{add(0, "a"), syncs(1), shorten(0, 0)} {
		for left, want := range map[int]int{1: 0, 2: 1, math.MaxInt: math.MaxInt - 1, -1: -1, -2: -2, math.MinInt: math.MinInt} {
			d := up(5, api.Zone{}, api.Zone{})
			d.Left = left
			o, e := disk.Do(d, w)
			if e != api.OK || o.Left != want || o.Down {
				t.Errorf("Left %d: %+v, error %d", left, o, e)
			}
		}
		d := up(5, api.Zone{B: "x"}, api.Zone{B: "y"})
		d.Left = 0
		want := d
		want.Down = true
		o, e := disk.Do(d, w)
		wants(t, "Left 0", o, e, want, api.ErrDown)
		o, e = disk.Do(o, w)
		wants(t, "down behind Left 0", o, e, api.Disk{}, api.ErrDown)
	}
}

func TestDoErrorsInOrder(t *testing.T) {
	for name, d := range wrongDisks() {
		for _, w := range []api.Write{add(0, "a"), syncs(1), shorten(0, 0), add(1, strings.Repeat("x", api.MaxZone+1)), {Op: 3}} {
			o, e := disk.Do(d, w)
			wants(t, name, o, e, api.Disk{}, api.ErrArg)
		}
	}
	for _, left := range []int{-1, 0, 1} {
		for _, down := range []bool{false, true} {
			for _, b := range []string{"", "ab"} {
				d := up(2, api.Zone{B: b}, api.Zone{B: b, Sure: len(b)})
				d.Left, d.Down = left, down
				for name, w := range noWrites() {
					o, e := disk.Do(d, w)
					wants(t, name, o, e, api.Disk{}, api.ErrArg)
				}
			}
		}
	}
	// Down goes ahead of full, and of Left 0: then there is no disk.
	for _, left := range []int{-1, 0, 1} {
		for _, w := range []api.Write{add(0, "a"), syncs(0), shorten(0, 1)} {
			d := up(1, api.Zone{B: "a"}, api.Zone{})
			d.Left, d.Down = left, true
			o, e := disk.Do(d, w)
			wants(t, "down", o, e, api.Disk{}, api.ErrDown)
		}
	}
	// Left 0 goes ahead of full.
	d := up(1, api.Zone{B: "a"}, api.Zone{})
	d.Left = 0
	want := d
	want.Down = true
	o, e := disk.Do(d, add(0, "b"))
	wants(t, "Left 0 and full", o, e, want, api.ErrDown)
}

func TestAll(t *testing.T) {
	d := up(4, api.Zone{}, api.Zone{})
	list := []api.Write{add(0, "ab"), syncs(0), add(0, "cd"), add(1, "x"), shorten(0, 3)}
	o, n, e := disk.All(d, list)
	wants(t, "all", o, e, up(4, api.Zone{B: "abc", Sure: 3}, api.Zone{B: "x"}), api.OK)
	if n != 5 {
		t.Error("all:", n)
	}
	for _, l := range [][]api.Write{nil, {}} {
		if o, n, e := disk.All(d, l); o != d || n != 0 || e != api.OK {
			t.Error("no operations:", o, n, e)
		}
	}
	for i, w := range []api.Write{add(0, "ab"), syncs(0), add(0, "cd"), add(1, "x"), shorten(0, 3)} {
		if list[i] != w {
			t.Error("the list is changed at", i)
		}
	}
}

func TestAllStops(t *testing.T) {
	begun := up(4, api.Zone{B: "ab"}, api.Zone{})
	armed := func(d api.Disk, left int, down bool) api.Disk {
		d.Left, d.Down = left, down
		return d
	}
	wrong := up(4, api.Zone{Sure: 1}, api.Zone{})
	for name, x := range map[string]struct {
		d    api.Disk
		l    []api.Write
		want api.Disk
		n    int
		e    api.Errno
	}{
		"full":               {begun, []api.Write{syncs(0), add(0, "cde"), add(1, "x")}, up(4, api.Zone{B: "ab", Sure: 2}, api.Zone{}), 1, api.ErrFull},
		"full at once":       {begun, []api.Write{add(0, "cde")}, begun, 0, api.ErrFull},
		"full, armed":        {armed(begun, 2, false), []api.Write{syncs(0), add(0, "cde")}, armed(up(4, api.Zone{B: "ab", Sure: 2}, api.Zone{}), 1, false), 1, api.ErrFull},
		"no operation":       {begun, []api.Write{add(1, "x"), syncs(2), add(0, "c")}, up(4, api.Zone{B: "ab"}, api.Zone{B: "x"}), 1, api.ErrArg},
		"none at once":       {begun, []api.Write{{}}, begun, 0, api.ErrArg},
		"none behind itself": {begun, []api.Write{shorten(0, 1), shorten(0, 2)}, up(4, api.Zone{B: "a", Sure: 1}, api.Zone{}), 1, api.ErrArg},
		"Left 1":             {armed(begun, 1, false), []api.Write{syncs(0), add(0, "c"), add(0, "d")}, armed(up(4, api.Zone{B: "ab", Sure: 2}, api.Zone{}), 0, true), 1, api.ErrDown},
		"Left just enough":   {armed(begun, 1, false), []api.Write{syncs(0)}, armed(up(4, api.Zone{B: "ab", Sure: 2}, api.Zone{}), 0, false), 1, api.OK},
		"Left 0":             {armed(begun, 0, false), []api.Write{syncs(0)}, armed(begun, 0, true), 0, api.ErrDown},
		"Left 0, none asked": {armed(begun, 0, false), nil, armed(begun, 0, false), 0, api.OK},
		"Left 0, full":       {armed(begun, 0, false), []api.Write{add(0, "cde")}, armed(begun, 0, true), 0, api.ErrDown},
		"Left 0, none":       {armed(begun, 0, false), []api.Write{{}}, armed(begun, 0, false), 0, api.ErrArg},
		"down":               {armed(begun, 3, true), []api.Write{syncs(0)}, armed(begun, 3, true), 0, api.ErrDown},
		"down, none asked":   {armed(begun, 3, true), nil, armed(begun, 3, true), 0, api.OK},
		"down, none":         {armed(begun, 3, true), []api.Write{{}}, armed(begun, 3, true), 0, api.ErrArg},
		"a wrong disk":       {wrong, []api.Write{syncs(0)}, wrong, 0, api.ErrArg},
		"a wrong disk, down": {armed(wrong, 0, false), []api.Write{syncs(0)}, armed(wrong, 0, false), 0, api.ErrArg},
	} {
		o, n, e := disk.All(x.d, x.l)
		wants(t, name, o, e, x.want, x.e)
		if n != x.n {
			t.Errorf("%s: %d done, want %d", name, n, x.n)
		}
	}
}

// P1.3

func TestArm(t *testing.T) {
	for _, down := range []bool{false, true} {
		for _, was := range []int{-1, 0, 3} {
			for n, left := range map[int]int{0: 0, 1: 1, 7: 7, math.MaxInt: math.MaxInt, -1: -1, -2: -1, math.MinInt: -1} {
				d := up(5, api.Zone{B: "ab", Sure: 1}, api.Zone{B: "c"})
				d.Left, d.Down = was, down
				want := d
				want.Left = left
				o, e := disk.Arm(d, n)
				wants(t, "armed", o, e, want, api.OK)
			}
		}
	}
	for name, d := range wrongDisks() {
		for _, n := range []int{-1, 0, 1} {
			o, e := disk.Arm(d, n)
			wants(t, name, o, e, api.Disk{}, api.ErrArg)
		}
	}
}

func TestCrash(t *testing.T) {
	begun := up(9, api.Zone{B: "abcd", Sure: 2}, api.Zone{B: "xyz"})
	zone0 := map[int]api.Zone{}
	for n, b := range map[int]string{math.MinInt: "ab", -1: "ab", 0: "ab", 1: "abc", 2: "abcd", 3: "abcd", math.MaxInt - 1: "abcd", math.MaxInt: "abcd"} {
		zone0[n] = api.Zone{B: b, Sure: len(b)}
	}
	zone1 := map[int]api.Zone{}
	for n, b := range map[int]string{math.MinInt: "", -1: "", 0: "", 1: "x", 2: "xy", 3: "xyz", 4: "xyz", math.MaxInt: "xyz"} {
		zone1[n] = api.Zone{B: b, Sure: len(b)}
	}
	for a, z0 := range zone0 {
		for b, z1 := range zone1 {
			for _, left := range []int{-3, -1, 0, 4} {
				for _, down := range []bool{false, true} {
					d := begun
					d.Left, d.Down = left, down
					o, e := disk.Crash(d, a, b)
					wants(t, "crash", o, e, up(9, z0, z1), api.OK)
				}
			}
		}
	}
	sure := up(2, api.Zone{B: "ab", Sure: 2}, api.Zone{})
	for _, n := range []int{-1, 0, 1} {
		o, e := disk.Crash(sure, n, n)
		wants(t, "nothing to lose", o, e, sure, api.OK)
	}
	for name, d := range wrongDisks() {
		for _, n := range []int{-1, 0, 1, 5} {
			o, e := disk.Crash(d, n, n)
			wants(t, name, o, e, api.Disk{}, api.ErrArg)
		}
	}
}

func TestExample(t *testing.T) {
	d, _ := disk.New(9)
	d, n, e := disk.All(d, []api.Write{add(0, "a"), syncs(0), add(0, "bc")})
	if n != 3 || e != api.OK {
		t.Fatal(n, e)
	}
	if d, e = disk.Crash(d, 1, 0); e != api.OK || d.Zones[0].B != "ab" {
		t.Error(d, e)
	}
}

// P1.4

// allWrites are operations on both zones, those that do not fit too.
func allWrites() []api.Write {
	var l []api.Write
	for zone := range 2 {
		l = append(l, add(zone, "a"), add(zone, "bc"), syncs(zone), shorten(zone, 0), shorten(zone, 1), shorten(zone, 2))
	}
	return l
}

// reached are all disks to which operations, crashes and arming lead from an empty one of that room.
func reached(t *testing.T, room int) []api.Disk {
	first, e := disk.New(room)
	if e != api.OK {
		t.Fatal(e)
	}
	seen := map[api.Disk]bool{first: true}
	l := []api.Disk{first}
	keep := func(d api.Disk) {
		if !seen[d] {
			seen[d] = true
			l = append(l, d)
		}
	}
	for i := 0; i < len(l); i++ {
		if len(l) > 20000 { // a Left that goes on below 0 would have no end
			t.Fatal("too many disks are reached")
		}
		for _, w := range allWrites() {
			if o, e := disk.Do(l[i], w); e == api.OK || o.Down {
				keep(o)
			}
		}
		for n := range room + 1 {
			o, _ := disk.Crash(l[i], n, room-n)
			keep(o)
		}
		if l[i].Left < 0 {
			o, _ := disk.Arm(l[i], 2)
			keep(o)
		}
	}
	return l
}

func TestDisksThatMayBeStay(t *testing.T) {
	l := reached(t, 2)
	if len(l) < 500 {
		t.Error("too few disks are reached:", len(l))
	}
	for _, d := range l {
		if disk.Check(d) != api.OK {
			t.Errorf("%+v may not be", d)
		}
	}
}

// sureOf is what no crash takes of a zone.
func sureOf(z api.Zone) string {
	return z.B[:z.Sure]
}

func TestSureStays(t *testing.T) {
	for _, d := range reached(t, 2) {
		for _, w := range allWrites() {
			o, e := disk.Do(d, w)
			if e != api.OK {
				continue
			}
			for i, z := range o.Zones {
				if w.Op == api.WrShorten && w.Zone == i {
					continue
				}
				if !strings.HasPrefix(sureOf(z), sureOf(d.Zones[i])) {
					t.Errorf("%+v, %+v: zone %d lost what was sure", d, w, i)
				}
			}
			if w.Op != api.WrAppend && o.Zones[w.Zone].Sure != len(o.Zones[w.Zone].B) {
				t.Errorf("%+v, %+v: not sure", d, w)
			}
		}
		for a := -1; a <= 3; a++ {
			for b := -1; b <= 3; b++ {
				o, e := disk.Crash(d, a, b)
				for i, z := range o.Zones {
					if e != api.OK || !strings.HasPrefix(z.B, sureOf(d.Zones[i])) || !strings.HasPrefix(d.Zones[i].B, z.B) {
						t.Errorf("%+v, crash %d %d: zone %d is %+v", d, a, b, i, z)
					}
				}
			}
		}
	}
}

func TestUnlikeZonesTurnedAbout(t *testing.T) {
	for _, d := range reached(t, 2) {
		if d.Left >= 0 {
			continue
		}
		for _, a := range allWrites() {
			for _, b := range allWrites() {
				if a.Zone != 0 || b.Zone != 1 {
					continue
				}
				one, aFirst := disk.Do(d, a)
				two, bFirst := disk.Do(d, b)
				if aFirst != api.OK || bFirst != api.OK {
					continue
				}
				o1, e1 := disk.Do(one, b)
				o2, e2 := disk.Do(two, a)
				if e1 != bFirst || e2 != aFirst || o1 != o2 {
					t.Errorf("%+v: %+v and %+v can't be turned about", d, a, b)
				}
			}
		}
	}
}

func TestErrorsOfUnlikeZones(t *testing.T) {
	for _, d := range reached(t, 2) {
		if d.Left >= 0 {
			continue
		}
		for _, a := range allWrites() {
			o, e := disk.Do(d, a)
			if e != api.OK {
				continue
			}
			for _, b := range allWrites() {
				_, e1 := disk.Do(d, b)
				_, e2 := disk.Do(o, b)
				if a.Zone != b.Zone && e1 != e2 {
					t.Errorf("%+v: %+v makes a difference to %+v: %d, %d", d, a, b, e1, e2)
				}
			}
		}
	}
}

func TestBehindACrashItGoesOn(t *testing.T) {
	d, _ := disk.New(9)
	d, _ = disk.Arm(d, 2)
	d, n, e := disk.All(d, []api.Write{add(0, "ab"), syncs(0), add(0, "cd")})
	if n != 2 || e != api.ErrDown || !d.Down {
		t.Fatal(d, n, e)
	}
	d, e = disk.Crash(d, 9, 9)
	wants(t, "crash", d, e, up(9, api.Zone{B: "ab", Sure: 2}, api.Zone{}), api.OK)
	d, e = disk.Do(d, add(0, "cd"))
	wants(t, "behind it", d, e, up(9, api.Zone{B: "abcd", Sure: 2}, api.Zone{}), api.OK)
}
