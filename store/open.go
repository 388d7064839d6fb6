package store

import (
	"lictor/api"
	"lictor/change"
	"lictor/fresh"
	"lictor/sector"
	"lictor/slots"
	"lictor/wal"
	"lictor/window"
)

// Open is the store that lies on a disk: its snapshot, and the commits of the log behind it.
func Open(d api.Disk) (api.Store, api.Errno) {
	if why := sector.Check(d); why != api.OK {
		return api.Store{}, why
	}
	s, why := found(d)
	s.Disk = fresh.Disk(d)
	return s, why
}

// found is the store that lies on a right disk, without the disk.
func found(d api.Disk) (api.Store, api.Errno) {
	a, b, log, why := Regions(len(d.Sectors))
	if why != api.OK {
		return api.Store{}, why
	}
	m, _, why := slots.Load(d, a, b)
	if why != api.OK {
		return api.Store{}, why
	}
	v, why := window.Unpack(m.Payload)
	if m.Epoch == 0 || why != api.OK {
		return api.Store{}, api.ErrForm
	}
	frames, end, why := wal.Scan(d, log, m.Epoch)
	if why != api.OK {
		return api.Store{}, why
	}
	if v, why = replayed(v, frames); why != api.OK {
		return api.Store{}, api.ErrForm
	}
	return api.Store{Versions: v, Epoch: m.Epoch, At: end, Count: len(frames)}, api.OK
}

// replayed are versions with the commits of a log behind them.
func replayed(v api.Versions, frames []api.Frame) (api.Versions, api.Errno) {
	for _, f := range frames {
		l, why := change.Unpack(f.Payload)
		if f.Kind != commitKind || why != api.OK {
			return api.Versions{}, api.ErrForm
		}
		if v, why, _ = window.Commit(v, l); why != api.OK {
			return api.Versions{}, why
		}
	}
	return v, api.OK
}
