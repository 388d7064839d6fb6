// Package sector has a disk of sectors: see ../../shared/DOC.md and doc/02-sector.md.
package sector

import (
	"slices"
	"strings"

	"lictor/api"
)

// New is a disk of zero bytes of which the power never goes.
func New(sectors int) (api.Disk, api.Errno) {
	if sectors < 1 || sectors > api.MaxSectors {
		return api.Disk{}, api.ErrRange
	}
	blank := strings.Repeat("\x00", api.SectorSize)
	return api.Disk{Sectors: slices.Repeat([]string{blank}, sectors), Fuse: -1}, api.OK
}

// Check tells why a disk is not right.
func Check(d api.Disk) api.Errno {
	if len(d.Sectors) < 1 || len(d.Sectors) > api.MaxSectors || len(d.Pending) > api.MaxPending {
		return api.ErrState
	}
	missing := missingFrom(d)
	misplaced := func(w api.Write) bool { return missing(w.Sector) || odd(w.Data) }
	if slices.ContainsFunc(d.Sectors, odd) || slices.ContainsFunc(d.Pending, misplaced) {
		return api.ErrState
	}
	return api.OK
}

// missingFrom tells of numbers whether they are none of the disk's sectors'.
func missingFrom(d api.Disk) func(n int) bool {
	return func(n int) bool { return n < 0 || n >= len(d.Sectors) }
}

// odd tells whether data is not of a sector's size.
func odd(data string) bool {
	return len(data) != api.SectorSize
}

// Read has what sector n holds: what was put last, synced or not.
func Read(d api.Disk, n int) (string, api.Errno) {
	if why := Check(d); why != api.OK {
		return "", why
	}
	if d.Off {
		return "", api.ErrPower
	}
	missing := missingFrom(d)
	if missing(n) {
		return "", api.ErrRange
	}
	for _, w := range slices.Backward(d.Pending) {
		if w.Sector == n {
			return w.Data, api.OK
		}
	}
	return d.Sectors[n], api.OK
}

// job is a write or a sync; cut is what is left of it when the power goes within it.
type job struct {
	refuse func(d api.Disk) api.Errno
	do     func(d *api.Disk)
	cut    func(d *api.Disk)
}

// work does a job by the rule that all jobs share.
func work(d api.Disk, j job) (api.Disk, api.Errno) {
	if why := Check(d); why != api.OK {
		return api.Disk{}, why
	}
	d = copied(d)
	if d.Off {
		return d, api.ErrPower
	}
	if why := j.refuse(d); why != api.OK {
		return d, why
	}
	if d.Fuse == 0 {
		j.cut(&d)
		d.Off = true
		return d, api.ErrPower
	}
	j.do(&d)
	if d.Fuse > 0 {
		d.Fuse--
	}
	return d, api.OK
}

// copied is the same disk in new memory.
func copied(d api.Disk) api.Disk {
	d.Sectors = slices.Clone(d.Sectors)
	d.Pending = slices.Clone(d.Pending)
	return d
}

// write is one that is asked for.
type write api.Write

// refuse tells why the write may not be done.
func (w write) refuse(d api.Disk) api.Errno {
	missing := missingFrom(d)
	switch {
	case missing(w.Sector):
		return api.ErrRange
	case odd(w.Data):
		return api.ErrLong
	case len(d.Pending) >= api.MaxPending:
		return api.ErrMany
	}
	return api.OK
}

// pend lays the write behind all others that are not synced.
func (w write) pend(d *api.Disk) {
	d.Pending = append(d.Pending, api.Write(w))
}

// Put writes a sector; the write may be lost till it is synced.
func Put(d api.Disk, n int, data string) (api.Disk, api.Errno) {
	w := write{Sector: n, Data: data}
	// A write in which the power goes is under way: it may be kept or lost, as any other that is not synced.
	return work(d, job{refuse: w.refuse, do: w.pend, cut: w.pend})
}

// Sync has all writes last.
func Sync(d api.Disk) (api.Disk, api.Errno) {
	return work(d, job{
		refuse: func(api.Disk) api.Errno { return api.OK },
		do:     func(d *api.Disk) { settle(d, func(int) bool { return true }) },
		cut:    func(*api.Disk) {},
	})
}

// Crash is the disk after the power went and came again: of its writes those at places of which keep is true are there.
func Crash(d api.Disk, keep []bool) (api.Disk, api.Errno) {
	if why := Check(d); why != api.OK {
		return api.Disk{}, why
	}
	d = copied(d)
	settle(&d, func(i int) bool { return i < len(keep) && keep[i] })
	d.Off = false
	d.Fuse = -1
	return d, api.OK
}

// settle does the writes that are kept, in order; none is pending then.
func settle(d *api.Disk, kept func(i int) bool) {
	for i, w := range d.Pending {
		if kept(i) {
			d.Sectors[w.Sector] = w.Data
		}
	}
	d.Pending = nil
}
