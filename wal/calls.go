package wal

import (
	"bytes"
	"slices"

	"conclave/api"
)

// Append: a record behind the others; it lasts from the next Sync on.
func (l *Log) Append(b []byte) api.Errno {
	if l == nil {
		return api.ErrNil
	}
	if len(b) > api.MaxRecord {
		return api.ErrBig
	}
	begins := len(l.files) == 0 || l.size >= l.most
	n := l.End()
	if !begins {
		n = l.last()
	} else if err := l.Sync(); err != api.OK { // no file but the last may lose bytes in a crash
		return err
	}
	if err := l.disk.Append(File(l.name, n), Frame(b)); err != api.OK {
		return err
	}
	if begins {
		l.begin(n)
	}
	l.keep(bytes.Clone(b))
	l.unsynced = true
	return api.OK
}

// Sync: all records last.
func (l *Log) Sync() api.Errno {
	if l == nil {
		return api.ErrNil
	}
	if !l.unsynced {
		return api.OK
	}
	if err := l.disk.Sync(File(l.name, l.last())); err != api.OK {
		return err
	}
	l.unsynced = false
	return api.OK
}

// Trim: files at the beginning whose records are all below n are removed; the last one stays, since its name tells the numbers.
func (l *Log) Trim(n int) api.Errno {
	if l == nil {
		return api.ErrNil
	}
	for len(l.files) > 1 && l.files[1] <= n {
		if err := l.disk.Remove(File(l.name, l.files[0])); err != api.OK {
			return err
		}
		l.records = slices.Delete(l.records, 0, l.files[1]-l.files[0])
		l.files = slices.Delete(l.files, 0, 1)
	}
	return api.OK
}

// Get: the record of a number.
func (l *Log) Get(n int) ([]byte, api.Errno) {
	if l == nil {
		return nil, api.ErrNil
	}
	if n < l.First() || n >= l.End() {
		return nil, api.ErrGone
	}
	return bytes.Clone(l.records[n-l.First()]), api.OK
}

// First: the number of the first record there is.
func (l *Log) First() int {
	if l == nil || len(l.files) == 0 {
		return 0
	}
	return l.files[0]
}

// End: the number of the record that would come next.
func (l *Log) End() int {
	if l == nil {
		return 0
	}
	return l.First() + len(l.records)
}

// last: the number of the last file; there is one.
func (l *Log) last() int {
	return l.files[len(l.files)-1]
}
