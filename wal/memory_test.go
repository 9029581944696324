package wal_test

import (
	"bytes"
	"testing"

	"conclave/api"
	"conclave/wal"
)

// overwrite: all bytes of a list, its spare room too.
func overwrite(b []byte) {
	b = b[:cap(b)]
	for i := range b {
		b[i] = '-'
	}
}

// Rule 4: bytes that come in are neither changed nor kept, their spare room neither.
func TestHandedIn(t *testing.T) {
	d := room(t)
	l := opened(t, d, "log", 20)
	held := []byte("abcdefgh")
	is(t, "Append", l.Append(held[:3]), api.OK)
	is(t, "Append", l.Append(held[:0]), api.OK)
	put(t, l, "xyz")
	if wal.Frame(held[:3]); string(held) != "abcdefgh" {
		t.Errorf("changed: %q", held)
	}
	overwrite(held)
	has(t, "the log", l, "0: abc  xyz")
	has(t, "opened again", opened(t, d, "log", 20), "0: abc  xyz")
	f := append([]byte(framed("abc")), "spare"...)
	record, _, _ := wal.Next(f[:15])
	wal.Next(f[:14])
	wal.Sum(f[:3])
	if string(f) != framed("abc")+"spare" {
		t.Errorf("changed: %q", f)
	}
	overwrite(f)
	if string(record) != "abc" {
		t.Errorf("Next shares memory with what it was given: %q", record)
	}
}

// Rule 4: what is handed out is new memory, spare room too.
func TestHandedOut(t *testing.T) {
	d := room(t)
	l := opened(t, d, "log", 40)
	put(t, l, "abc", "", "def", "ghi")
	for _, l := range []*wal.Log{l, opened(t, d, "log", 40)} {
		first, _ := l.Get(0)
		second, _ := l.Get(0)
		nothing, _ := l.Get(1)
		overwrite(first)
		overwrite(nothing)
		_ = append(nothing, "++++"...)
		if string(second) != "abc" {
			t.Errorf("two answers share memory: %q", second)
		}
		has(t, "the log", l, "0: abc  def ghi")
	}
	kept, _ := l.Get(2)
	is(t, "Trim", l.Trim(3), api.OK)
	put(t, l, "jkl", "mno", "pqr")
	if string(kept) != "def" {
		t.Errorf("an answer is written later on: %q", kept)
	}
	b := []byte("abc")
	f, g := wal.Frame(b), wal.Frame(b)
	overwrite(f)
	if string(b) != "abc" || string(g) != framed("abc") {
		t.Errorf("Frame shares memory: %q, %q", b, g)
	}
	one, _, _ := wal.Next(g)
	two, _, _ := wal.Next(g)
	overwrite(one)
	if string(two) != "abc" || string(g) != framed("abc") {
		t.Errorf("Next shares memory: %q, %q", two, g)
	}
}

// Rule 5: logs of two names on one disk, and of one name on two disks, share nothing.
func TestApart(t *testing.T) {
	d, e := room(t), room(t)
	names := []string{"log", "log0", "LOG", "0"}
	logs := []*wal.Log{opened(t, e, "log", 20)}
	for _, name := range names {
		logs = append(logs, opened(t, d, name, 20))
	}
	for i, l := range logs {
		put(t, l, "a", string(bytes.Repeat([]byte{'b'}, i)), "c")
	}
	is(t, "Trim", logs[1].Trim(2), api.OK)
	is(t, "Sync", logs[2].Sync(), api.OK)
	files(t, "two disks", e, "log.0=25 log.2=13")
	files(t, "one disk", d, "0.0=29 0.2=13 LOG.0=28 LOG.2=13 log.2=13 log0.0=27 log0.2=13")
	has(t, "the other disk", logs[0], "0: a  c")
	has(t, "trimmed", logs[1], "2: c")
	has(t, "synced", logs[2], "0: a bb c")
	d.Boot(nil)
	has(t, "trimmed, booted", opened(t, d, "log", 20), "2:")
	has(t, "synced, booted", opened(t, d, "log0", 20), "0: a bb c")
	has(t, "booted", opened(t, d, "LOG", 20), "0: a bbb")
	has(t, "the other disk", opened(t, e, "log", 20), "0: a  c")
}
