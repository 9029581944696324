package wal_test

import (
	"fmt"
	"math/rand/v2"
	"slices"
	"strings"
	"testing"

	"conclave/api"
	"conclave/disk"
	"conclave/wal"
)

// told: what a log was told, and what it said of that.
type told struct {
	l       *wal.Log
	records []string // all that were appended, by their numbers
	synced  int      // so many of them were, by a Sync that was OK
	trimmed int      // no record from here on may be gone
}

// append: a record, if the log takes it.
func (w *told) append(s string) api.Errno {
	err := w.l.Append([]byte(s))
	if err == api.OK {
		w.records = append(w.records, s)
	}
	return err
}

func (w *told) sync() api.Errno {
	err := w.l.Sync()
	if err == api.OK {
		w.synced = len(w.records)
	}
	return err
}

func (w *told) trim(n int) api.Errno {
	w.trimmed = max(w.trimmed, n)
	return w.l.Trim(n)
}

// again: the log is opened behind Boot: all that was synced and not trimmed is there, and behind it the first ones of the others.
func (w *told) again(t *testing.T, what string, d *disk.Disk, name string, most int) {
	t.Helper()
	first := w.l.First()
	l, err := wal.Open(d, name, most)
	if err != api.OK {
		t.Fatalf("%s: Open: %d", what, err)
	}
	if l.First() != first || first > w.trimmed {
		t.Fatalf("%s: begins at %d, not %d; trimmed up to %d", what, l.First(), first, w.trimmed)
	}
	if l.End() < max(w.synced, first) || l.End() > len(w.records) {
		t.Fatalf("%s: ends at %d; synced %d, appended %d", what, l.End(), w.synced, len(w.records))
	}
	for n := l.First(); n < l.End(); n++ {
		if b, err := l.Get(n); string(b) != w.records[n] || err != api.OK {
			t.Fatalf("%s: record %d: %q, %d, not %q", what, n, b, err, w.records[n])
		}
	}
	w.l, w.records, w.synced = l, w.records[:l.End()], l.End()
}

// story: calls one behind the other, till the disk is down.
func story(w *told, d *disk.Disk) {
	for i := range 24 {
		w.append(strings.Repeat(string(rune('a'+i)), i*5%11))
		if i%4 == 2 {
			w.sync()
		}
		if i%6 == 5 {
			w.trim(i - 4)
		}
		if d.Down() {
			return
		}
	}
	w.sync()
}

// P805: a crash at each step, and each number of bytes of the last file that were written by then; the log goes on behind it.
func TestLasts(t *testing.T) {
	for _, most := range []int{1, 13, 30, 60, 1000} {
		for at := 1; at < 100; at++ {
			for keep := range 64 {
				d := room(t)
				w := &told{l: opened(t, d, "log", most)}
				d.Arm([]disk.Fault{{At: at, Kind: disk.Crash}})
				story(w, d)
				crashed := d.Down()
				d.Boot(slices.Repeat([]int{keep}, api.MaxFiles))
				what := fmt.Sprint("most ", most, ", crash at ", at, ", kept ", keep)
				w.again(t, what, d, "log", most)
				story(w, d)
				d.Boot(nil)
				w.again(t, what+", and on", d, "log", most)
				if !crashed {
					at = 100
					break
				}
			}
		}
	}
}

// P805: the disk's other errors on the way, crashes one behind the other, two logs on one disk, Open's own crashes.
func TestLastsDrawn(t *testing.T) {
	r := rand.New(rand.NewPCG(8, 5))
	names, opens, lost := []string{"log", "log2"}, 0, 0
	for range 300 {
		d, _ := disk.New(300 + r.IntN(1000))
		most := []int{1 + r.IntN(100), 1 + r.IntN(100)}
		logs := []*told{{l: opened(t, d, "log", most[0])}, {l: opened(t, d, "log2", most[1])}}
		for step := range 200 {
			w := logs[r.IntN(2)]
			switch r.IntN(12) {
			case 0:
				d.Arm([]disk.Fault{{At: 1 + r.IntN(5), Kind: 1 + r.IntN(3)}, {At: 6 + r.IntN(9), Kind: disk.Crash}})
			case 1, 2:
				w.sync()
			case 3:
				w.trim(w.l.First() + r.IntN(8))
			default:
				w.append(fmt.Sprint(strings.Repeat("x", r.IntN(30)), step))
			}
			if !d.Down() && r.IntN(40) > 0 {
				continue
			}
			kept := make([]int, r.IntN(api.MaxFiles+1))
			for i := range kept {
				kept[i] = r.IntN(150)
			}
			d.Boot(kept)
			for i, w := range logs {
				if r.IntN(4) == 0 { // Open meets an error of its own, and is tried again
					d.Arm([]disk.Fault{{At: 1 + r.IntN(4), Kind: 1 + r.IntN(3)}})
					wal.Open(d, names[i], most[i])
					d.Boot(nil)
				}
				had := len(w.records)
				w.again(t, fmt.Sprint("step ", step), d, names[i], most[i])
				opens++
				lost += had - len(w.records)
			}
		}
	}
	if opens < 1000 || lost < 100 {
		t.Errorf("%d opens, %d records lost: too few to tell", opens, lost)
	}
}

// rots: each other byte at each place of each file makes Open say ErrRot; the disk's files stay as they are.
func rots(t *testing.T, what string, d *disk.Disk, name string, most int) {
	t.Helper()
	places := 0
	for _, file := range d.List() {
		if !strings.HasPrefix(file, name+".") {
			continue
		}
		b, _ := d.Read(file)
		for at := range b {
			places++
			for by := 1; by < 256; by++ {
				d.Spoil(file, at, byte(by))
				if l, err := wal.Open(d, name, most); l != nil || err != api.ErrRot {
					t.Fatalf("%s: byte %d of %s, by %x: %v, %d", what, at, file, by, l, err)
				}
				d.Spoil(file, at, byte(by))
			}
		}
		if after, _ := d.Read(file); string(after) != string(b) {
			t.Fatalf("%s: %s was changed", what, file)
		}
	}
	if places == 0 {
		t.Fatalf("%s: no bytes", what)
	}
	opened(t, d, name, most)
}

// P806: of a log in one file and in several, with records of nothing at both ends, trimmed, and behind a crash.
func TestRot(t *testing.T) {
	for _, most := range []int{1, 30, 1000} {
		d := room(t)
		l := opened(t, d, "log", most)
		put(t, l, "", "one", "\x00", "\xff\xff", "three", "", "")
		is(t, "Sync", l.Sync(), api.OK)
		rots(t, fmt.Sprint("most ", most), d, "log", most)
		is(t, "Trim", l.Trim(5), api.OK)
		rots(t, fmt.Sprint("most ", most, ", trimmed"), d, "log", most)
		put(t, l, "four")
		d.Boot([]int{9, 9, 9, 9})
		l = opened(t, d, "log", most)
		rots(t, fmt.Sprint("most ", most, ", behind a crash"), d, "log", most)
		put(t, l, "five", "six")
		is(t, "Sync", l.Sync(), api.OK)
		rots(t, fmt.Sprint("most ", most, ", and on"), d, "log", most)
	}
}

// P806: of great records; not each byte, but those at their edges and others drawn.
func TestRotGreat(t *testing.T) {
	d := room(t)
	l := opened(t, d, "log", 100)
	r := rand.New(rand.NewPCG(8, 6))
	for _, n := range []int{65536, 256, 65535} {
		is(t, "Append", l.Append(drawn(r, n)), api.OK)
	}
	is(t, "Sync", l.Sync(), api.OK)
	for _, file := range d.List() {
		b, _ := d.Read(file)
		places := []int{len(b) - 1}
		for i := range 13 {
			places = append(places, i, r.IntN(len(b)))
		}
		for _, at := range places {
			by := byte(1 + r.IntN(255))
			d.Spoil(file, at, by)
			refused(t, fmt.Sprint("byte ", at, " of ", file), d, "log", 100, api.ErrRot)
			d.Spoil(file, at, by)
		}
	}
	opened(t, d, "log", 100)
}
