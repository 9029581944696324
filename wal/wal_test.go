package wal_test

import (
	"encoding/binary"
	"fmt"
	"hash/crc32"
	"strings"
	"testing"

	"conclave/api"
	"conclave/disk"
	"conclave/wal"
)

// is: an error as it should be.
func is(t *testing.T, what string, got, want api.Errno) {
	t.Helper()
	if got != want {
		t.Errorf("%s: %d, not %d", what, got, want)
	}
}

// room: a disk with files, each told by its name and its bytes; all of them are safe.
func room(t *testing.T, files ...string) *disk.Disk {
	t.Helper()
	d, err := disk.New(1 << 24)
	is(t, "New", err, api.OK)
	for i := 0; i < len(files); i += 2 {
		is(t, "Append", d.Append(files[i], []byte(files[i+1])), api.OK)
		is(t, "Sync", d.Sync(files[i]), api.OK)
	}
	return d
}

// opened: a log that can be.
func opened(t *testing.T, d *disk.Disk, name string, most int) *wal.Log {
	t.Helper()
	l, err := wal.Open(d, name, most)
	if l == nil || err != api.OK {
		t.Fatalf("Open(%q, %d): %v, %d", name, most, l, err)
	}
	return l
}

// refused: a log that can't be, with an error.
func refused(t *testing.T, what string, d *disk.Disk, name string, most int, want api.Errno) {
	t.Helper()
	if l, err := wal.Open(d, name, most); l != nil || err != want {
		t.Errorf("%s: Open(%q, %d): %v, %d, not %d", what, name, most, l, err, want)
	}
}

// put: records, each appended.
func put(t *testing.T, l *wal.Log, records ...string) {
	t.Helper()
	for _, s := range records {
		is(t, "Append of "+s, l.Append([]byte(s)), api.OK)
	}
}

// has: the log's numbers and records, as "first: record record".
func has(t *testing.T, what string, l *wal.Log, want string) {
	t.Helper()
	got := fmt.Sprint(l.First(), ":")
	for n := l.First(); n < l.End(); n++ {
		b, err := l.Get(n)
		is(t, fmt.Sprint(what, ": Get of ", n), err, api.OK)
		got += " " + string(b)
	}
	if got != want {
		t.Errorf("%s: %q, not %q", what, got, want)
	}
}

// files: the names on a disk, and how many bytes each file has; it makes steps.
func files(t *testing.T, what string, d *disk.Disk, want string) {
	t.Helper()
	var got []string
	for _, name := range d.List() {
		b, err := d.Read(name)
		is(t, what+": Read of "+name, err, api.OK)
		got = append(got, fmt.Sprint(name, "=", len(b)))
	}
	if strings.Join(got, " ") != want {
		t.Errorf("%s: files %q, not %q", what, got, want)
	}
}

// framed: the frames of records, by the library's sums.
func framed(records ...string) string {
	out := []byte{}
	for _, s := range records {
		told := binary.BigEndian.AppendUint32(nil, uint32(len(s)))
		out = append(out, told...)
		out = binary.BigEndian.AppendUint32(out, crc32.ChecksumIEEE(told))
		out = binary.BigEndian.AppendUint32(out, crc32.ChecksumIEEE([]byte(s)))
		out = append(out, s...)
	}
	return string(out)
}

// The words: what a name is, by its length and by each byte at each place.
func TestName(t *testing.T) {
	for n := range 40 {
		if got := wal.Name(strings.Repeat("x", n)); got != (n >= 1 && n <= 16) {
			t.Errorf("a name of %d bytes: %v", n, got)
		}
	}
	const right = "abcdefghijklmnopqrstuvwxyzABCDEFGHIJKLMNOPQRSTUVWXYZ0123456789"
	for b := range 256 {
		c := string([]byte{byte(b)})
		want := strings.Contains(right, c)
		for _, s := range []string{c, "a" + c, c + "a", "a" + c + "a", strings.Repeat("0", 15) + c} {
			if got := wal.Name(s); got != want {
				t.Errorf("%q: %v", s, got)
			}
		}
	}
	for _, s := range []string{"\u00e4", "log\u00e4", "\u0663", "log.0", "a b", "a-b", "a_b"} {
		if wal.Name(s) {
			t.Errorf("%q is a name", s)
		}
	}
	if !wal.Name("log") || !wal.Name("0") || !wal.Name("Z") || !wal.Name("0123456789abcdef") {
		t.Errorf("names of letters and digits")
	}
}

// The words, and the chapter's example: the names of files, at both edges of their numbers.
func TestFile(t *testing.T) {
	for _, c := range []struct {
		name string
		n    int
		want string
	}{
		{"log", 0, "log.0"}, {"log", 1, "log.1"}, {"log", 9, "log.9"}, {"log", 10, "log.10"}, {"log", 100, "log.100"},
		{"a", 123456789, "a.123456789"}, {"0", 7, "0.7"},
		{"0123456789abcdef", 999999999, "0123456789abcdef.999999999"},
		{"log", 1e9 - 1, "log.999999999"}, {"log", 1e9, ""}, {"log", 1e9 + 1, ""}, {"log", 1<<63 - 1, ""}, {"log", 1 << 32, ""},
		{"log", -1, ""}, {"log", -1 << 63, ""},
	} {
		if got := wal.File(c.name, c.n); got != c.want {
			t.Errorf("File(%q, %d): %q, not %q", c.name, c.n, got, c.want)
		}
	}
}
