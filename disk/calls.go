package disk

import (
	"slices"

	"conclave/api"
)

// Append: bytes behind those of a file; one that was not there begins empty.
func (d *Disk) Append(name string, b []byte) api.Errno {
	if err := d.step(name); err != api.OK {
		return err
	}
	f, there := d.files[name]
	if !there && len(d.files) >= api.MaxFiles {
		return api.ErrBig
	}
	if len(b) > d.room-d.used() {
		return api.ErrFull
	}
	if !there {
		f = &file{}
		d.files[name] = f
	}
	f.bytes = append(f.bytes, b...)
	return api.OK
}

// Sync: all bytes of a file are safe.
func (d *Disk) Sync(name string) api.Errno {
	f, err := d.find(name)
	if err != api.OK {
		return err
	}
	f.safe = len(f.bytes)
	return api.OK
}

// Truncate: the first n bytes of a file are left, and safe.
func (d *Disk) Truncate(name string, n int) api.Errno {
	f, err := d.find(name)
	if err != api.OK {
		return err
	}
	if n < 0 || n > len(f.bytes) {
		return api.ErrArg
	}
	f.cut(n)
	return api.OK
}

// Rename: a file that is safe all through gets the other name; one that had it is gone.
func (d *Disk) Rename(name, other string) api.Errno {
	f, err := d.find(name, other)
	if err != api.OK {
		return err
	}
	if f.safe < len(f.bytes) {
		return api.ErrArg
	}
	delete(d.files, name) // ahead of the next line, since the names may be the same
	d.files[other] = f
	return api.OK
}

// Remove: a file is gone.
func (d *Disk) Remove(name string) api.Errno {
	if _, err := d.find(name); err != api.OK {
		return err
	}
	delete(d.files, name)
	return api.OK
}

// Read: the bytes of a file.
func (d *Disk) Read(name string) ([]byte, api.Errno) {
	f, err := d.find(name)
	if err != api.OK {
		return nil, err
	}
	return slices.Clone(f.bytes), api.OK
}
