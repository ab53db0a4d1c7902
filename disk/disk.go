// Package disk is layer 1: two zones that grow, and may lose their ends (see shared/doc/01-disk.md).
package disk

import "carding/api"

// New gives an empty disk whose zones may have most bytes each (P1.1).
func New(most int) (api.Disk, api.Errno) {
	d := api.Disk{Cap: most, Left: -1}
	if Check(d) != api.OK {
		return api.Disk{}, api.ErrArg
	}
	return d, api.OK
}

// Check tells whether a disk may be (P1.1).
func Check(d api.Disk) api.Errno {
	if d.Cap < 0 || d.Cap > api.MaxZone {
		return api.ErrArg
	}
	for _, z := range d.Zones {
		if len(z.B) > d.Cap || z.Sure < 0 || z.Sure > len(z.B) {
			return api.ErrArg
		}
	}
	return api.OK
}

// Do does one operation (P1.2).
func Do(d api.Disk, w api.Write) (api.Disk, api.Errno) {
	if Check(d) != api.OK || !isWrite(d, w) {
		return api.Disk{}, api.ErrArg
	}
	if d.Down {
		return api.Disk{}, api.ErrDown
	}
	if d.Left == 0 {
		d.Down = true
		return d, api.ErrDown
	}
	if len(w.B) > d.Cap-len(d.Zones[w.Zone].B) {
		return api.Disk{}, api.ErrFull
	}
	d.Zones[w.Zone] = behind(d.Zones[w.Zone], w) // d is a copy, its array of zones too
	if d.Left > 0 {
		d.Left--
	}
	return d, api.OK
}

// isWrite tells whether w is an operation on d.
func isWrite(d api.Disk, w api.Write) bool {
	if w.Zone>>1 != 0 { // all but 0 and 1 have a bit left, numbers below 0 too
		return false
	}
	switch w.Op {
	case api.WrAppend:
		return w.B != "" && w.N == 0
	case api.WrSync:
		return w.B == "" && w.N == 0
	case api.WrShorten:
		return w.B == "" && w.N >= 0 && w.N <= len(d.Zones[w.Zone].B)
	}
	return false
}

// behind is the zone behind an operation on it.
func behind(z api.Zone, w api.Write) api.Zone {
	switch w.Op {
	case api.WrAppend:
		z.B += w.B
	case api.WrShorten:
		z.B = z.B[:w.N]
		fallthrough // what a shortening leaves is sure, as behind a sync
	case api.WrSync:
		z.Sure = len(z.B)
	}
	return z
}

// All does operations up to the first error (P1.2).
func All(d api.Disk, l []api.Write) (o api.Disk, done int, e api.Errno) {
	for i, w := range l {
		next, err := Do(d, w)
		if err == api.ErrDown {
			d.Down = true // Do gives no disk where it was down already
		}
		if err != api.OK {
			return d, i, err
		}
		d = next
	}
	return d, len(l), api.OK
}

// Arm sets how many operations are left till the disk goes down (P1.3).
func Arm(d api.Disk, n int) (api.Disk, api.Errno) {
	if Check(d) != api.OK {
		return api.Disk{}, api.ErrArg
	}
	d.Left = max(n, -1)
	return d, api.OK
}

// Crash keeps a and b bytes behind the sure ones of the zones (P1.3).
func Crash(d api.Disk, a, b int) (api.Disk, api.Errno) {
	if Check(d) != api.OK {
		return api.Disk{}, api.ErrArg
	}
	for i, n := range [2]int{a, b} {
		z := &d.Zones[i]
		n = min(max(n, 0), len(z.B)-z.Sure) // ahead of the sum, which might wrap round
		z.Sure += n
		z.B = z.B[:z.Sure]
	}
	d.Left, d.Down = -1, false
	return d, api.OK
}

// Same tells whether all fields are the same (P1.1).
func Same(a, b api.Disk) bool {
	return a == b
}
