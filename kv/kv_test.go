package kv_test

import (
	"encoding/binary"
	"fmt"
	"strings"
	"testing"

	"conclave/api"
	"conclave/disk"
	"conclave/kv"
	"conclave/wal"
)

// is: an error as it should be.
func is(t *testing.T, what string, got, want api.Errno) {
	t.Helper()
	if got != want {
		t.Errorf("%s: %d, not %d", what, got, want)
	}
}

// room: an empty disk with more room than is needed.
func room(t *testing.T) *disk.Disk {
	t.Helper()
	d, err := disk.New(1 << 26)
	is(t, "New", err, api.OK)
	return d
}

// opened: a store that can be.
func opened(t *testing.T, d *disk.Disk, name string, most int) *kv.Store {
	t.Helper()
	s, err := kv.Open(d, name, most)
	if s == nil || err != api.OK {
		t.Fatalf("Open(%q, %d): %v, %d", name, most, s != nil, err)
	}
	return s
}

// refused: a store that can't be, with an error.
func refused(t *testing.T, what string, d *disk.Disk, name string, most int, want api.Errno) {
	t.Helper()
	if s, err := kv.Open(d, name, most); s != nil || err != want {
		t.Errorf("%s: Open(%q, %d): %v, %d, not %d", what, name, most, s != nil, err, want)
	}
}

// put: a key with a value.
func put(key, val string) kv.Change {
	return kv.Change{Key: []byte(key), Val: []byte(val)}
}

// gone: a key without one.
func gone(key string) kv.Change {
	return kv.Change{Key: []byte(key), Gone: true}
}

// list: changes told as "a=1 b=2 -c".
func list(s string) []kv.Change {
	var out []kv.Change
	for _, word := range strings.Fields(s) {
		if key, ok := strings.CutPrefix(word, "-"); ok {
			out = append(out, gone(key))
			continue
		}
		key, val, _ := strings.Cut(word, "=")
		out = append(out, put(key, val))
	}
	return out
}

// told: changes as list takes them.
func told(l []kv.Change) string {
	var out []string
	for _, c := range l {
		if c.Gone {
			out = append(out, "-"+string(c.Key)+string(c.Val))
			continue
		}
		out = append(out, string(c.Key)+"="+string(c.Val))
	}
	return strings.Join(out, " ")
}

// record: what a batch's record is, by the chapter's words.
func record(l ...kv.Change) []byte {
	var b []byte
	for _, c := range l {
		b = binary.BigEndian.AppendUint16(b, uint16(len(c.Key)))
		b = append(b, c.Key...)
		if c.Gone {
			b = append(b, 255, 255, 255, 255)
			continue
		}
		b = binary.BigEndian.AppendUint32(b, uint32(len(c.Val)))
		b = append(b, c.Val...)
	}
	return b
}

// puts: batches that are OK, each told as list takes it.
func puts(t *testing.T, s *kv.Store, batches ...string) {
	t.Helper()
	for _, b := range batches {
		is(t, "Put of "+b, s.Put(list(b)), api.OK)
	}
}

// has: the store's keys and values, by each of the looks.
func has(t *testing.T, what string, s *kv.Store, want string) {
	t.Helper()
	all := s.Range(nil, nil)
	if told(all) != want {
		t.Errorf("%s: %.300q, not %.300q", what, told(all), want)
	}
	if s.Len() != len(all) || s.Len() != len(strings.Fields(want)) {
		t.Errorf("%s: Len %d of %d", what, s.Len(), len(all))
	}
	for _, c := range all {
		if val, ok := s.Get(c.Key); !ok || string(val) != string(c.Val) {
			t.Errorf("%s: Get of %q: %q, %v", what, c.Key, val, ok)
		}
	}
}

// logged: the records of a store's log, told in hexadecimal digits, and the number of the first one; it makes steps.
func logged(t *testing.T, what string, d *disk.Disk, name string, want string) {
	t.Helper()
	l, err := wal.Open(d, name, 1)
	is(t, what+": the log", err, api.OK)
	got := fmt.Sprint(l.First(), ":")
	for n := l.First(); n < l.End(); n++ {
		b, _ := l.Get(n)
		got += fmt.Sprintf(" %x", b)
	}
	if got != want {
		t.Errorf("%s: the log is %.300s, not %.300s", what, got, want)
	}
}

// written: a disk whose log has these records, all of them synced.
func written(t *testing.T, records ...string) *disk.Disk {
	t.Helper()
	d := room(t)
	l, err := wal.Open(d, "db", 40)
	is(t, "the log", err, api.OK)
	for _, r := range records {
		is(t, "Append", l.Append([]byte(r)), api.OK)
	}
	is(t, "Sync", l.Sync(), api.OK)
	return d
}

// batch, snap: records as the log has them, of changes as list takes them.
func batch(s string) string { return "\x00" + string(record(list(s)...)) }
func snap(s string) string  { return "\x01" + string(record(list(s)...)) }
