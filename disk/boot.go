package disk

import (
	"maps"
	"slices"

	"conclave/api"
)

// List: the files' names, in the order of their bytes.
func (d *Disk) List() []string {
	if d == nil || d.down {
		return nil
	}
	return d.names()
}

// names: those of List, whether the disk is down or not.
func (d *Disk) names() []string {
	return slices.Sorted(maps.Keys(d.files))
}

// Down: whether it has crashed, and was not booted since.
func (d *Disk) Down() bool { return d != nil && d.down }

// Steps: how many there were since New.
func (d *Disk) Steps() int {
	if d == nil {
		return 0
	}
	return d.steps
}

// Spoil: a byte of a file rots, nobody knows; no step.
func (d *Disk) Spoil(name string, at int, by byte) api.Errno {
	if d == nil {
		return api.ErrNil
	}
	f, there := d.files[name]
	if !there {
		return api.ErrGone
	}
	if at < 0 || at >= len(f.bytes) {
		return api.ErrArg
	}
	f.bytes[at] ^= by
	return api.OK
}

// Boot: the disk is up again; kept tells for each file how much of it was written at the crash, beyond what is safe.
func (d *Disk) Boot(kept []int) {
	if d == nil {
		return
	}
	d.down, d.plan = false, nil
	for i, name := range d.names() {
		f := d.files[name]
		left := f.safe
		if i < len(kept) {
			left = min(max(kept[i], f.safe), len(f.bytes))
		}
		f.cut(left)
	}
}
