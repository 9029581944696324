package kv_test

import (
	"fmt"
	"strings"
	"testing"

	"conclave/api"
	"conclave/disk"
	"conclave/kv"
)

// P905: a snapshot is one record, its first byte 1, all keys rising; files ahead of its own are gone; Open gives the same store behind it.
func TestSnap(t *testing.T) {
	d := room(t)
	s := opened(t, d, "db", 1)
	puts(t, s, "b=2 c=3", "a=1", "-c")
	logged(t, "ahead", d, "db", "0: 00"+"0001620000000132"+"0001630000000133"+" 00"+"0001610000000131"+" 00"+"000163ffffffff")
	steps := d.Steps()
	is(t, "Snap", s.Snap(), api.OK)
	if d.Steps() != steps+5 { // Append, Sync, and three files removed
		t.Errorf("%d steps", d.Steps()-steps)
	}
	has(t, "the store", s, "a=1 b=2")
	logged(t, "behind", d, "db", "3: 01"+"0001610000000131"+"0001620000000132")
	has(t, "opened", opened(t, d, "db", 1), "a=1 b=2")
	puts(t, s, "-a d=4")
	has(t, "goes on", s, "b=2 d=4")
	d.Boot(nil)
	has(t, "booted", opened(t, d, "db", 1), "b=2 d=4")
	is(t, "Snap", s.Snap(), api.OK)
	is(t, "Snap again", s.Snap(), api.OK)
	logged(t, "again", d, "db", "6: 01"+"0001620000000132"+"0001640000000134")
	has(t, "again", opened(t, d, "db", 1), "b=2 d=4")
}

// P905: of a store without keys, new or emptied.
func TestSnapNothing(t *testing.T) {
	d := room(t)
	s := opened(t, d, "db", 1)
	is(t, "Snap", s.Snap(), api.OK)
	logged(t, "a new store", d, "db", "0: 01")
	puts(t, s, "a=1", "-a")
	is(t, "Snap", s.Snap(), api.OK)
	logged(t, "emptied", d, "db", "3: 01")
	has(t, "emptied", opened(t, d, "db", 1), "")
	puts(t, s, "b=2")
	has(t, "goes on", opened(t, d, "db", 1), "b=2")
}

// P905: the log is trimmed up to the snapshot, not beyond: in a file that holds older records too, these stay.
func TestSnapTrims(t *testing.T) {
	for _, c := range []struct {
		most  int
		first int
	}{{1, 4}, {13, 4}, {14, 3}, {21, 3}, {22, 4}, {43, 3}, {63, 3}, {64, 4}, {76, 4}, {77, 0}, {1000, 0}} {
		d := room(t)
		s := opened(t, d, "db", c.most)
		puts(t, s, "a=1", "b=2", "c=3")
		is(t, "Put of nothing", s.Put(nil), api.OK)
		is(t, "Snap", s.Snap(), api.OK)
		name := fmt.Sprint("db.", c.first)
		if got := strings.Join(d.List(), " "); got != name {
			t.Errorf("most %d: %s, not %s", c.most, got, name)
		}
		has(t, fmt.Sprint("most ", c.most), opened(t, d, "db", c.most), "a=1 b=2 c=3")
	}
}

// P905: a snapshot's record of MaxRecord bytes, and of one more, by which nothing is done.
func TestSnapBig(t *testing.T) {
	for _, last := range []string{"z=", "zz=", "z=1", "-q"} {
		d := room(t)
		s := opened(t, d, "db", 1)
		half := strings.Repeat("v", api.MaxRecord/2)
		rest := strings.Repeat("w", api.MaxRecord/2-1-3*7)
		puts(t, s, "a="+half, "b="+rest, last)
		all, steps := told(s.Range(nil, nil)), d.Steps()
		if last == "z=" {
			is(t, "Snap of the greatest", s.Snap(), api.OK)
			has(t, "the greatest", s, all)
			has(t, "the greatest, opened again", opened(t, d, "db", 1), all)
			if strings.Join(d.List(), " ") != "db.3" {
				t.Errorf("the greatest: %v", d.List())
			}
			continue
		}
		if last == "-q" {
			is(t, "Snap of fewer", s.Snap(), api.OK)
			continue
		}
		is(t, "Snap of one more", s.Snap(), api.ErrBig)
		is(t, "Snap of one more, again", s.Snap(), api.ErrBig)
		if d.Steps() != steps {
			t.Errorf("one more: %d steps", d.Steps()-steps)
		}
		has(t, "one more", s, all)
		puts(t, s, "a=1")
		is(t, "Snap of fewer", s.Snap(), api.OK)
		has(t, "fewer", opened(t, d, "db", 1), told(s.Range(nil, nil)))
	}
}

// P905: far more keys than a record takes.
func TestSnapFarTooBig(t *testing.T) {
	d := room(t)
	s := opened(t, d, "db", 1<<20)
	for i := range 40 {
		is(t, "Put", s.Put([]kv.Change{put(fmt.Sprint("k", i), strings.Repeat("v", 9000))}), api.OK)
	}
	is(t, "Snap", s.Snap(), api.ErrBig)
	if s.Len() != 40 || opened(t, d, "db", 1).Len() != 40 {
		t.Errorf("%d keys", s.Len())
	}
}

// P905: an error of Append and of Sync breaks the store; it is as it was, and so is what is opened behind a crash.
func TestSnapFaults(t *testing.T) {
	for kind, want := range kinds() {
		for _, most := range []int{1, 1000} {
			for at := 1; at <= 2; at++ {
				what := fmt.Sprint("fault ", kind, " at ", at, ", most ", most)
				d := room(t)
				s := opened(t, d, "db", most)
				puts(t, s, "a=1 b=2", "-a")
				names := d.List()
				d.Arm([]disk.Fault{{At: at, Kind: kind}})
				is(t, what, s.Snap(), want)
				halted(t, what, d, s, "b=2")
				d.Boot(nil)
				if len(d.List()) < len(names) {
					t.Errorf("%s: %v are left of %v", what, d.List(), names)
				}
				halted(t, what+", booted", d, s, "b=2")
				has(t, what+", booted and opened", opened(t, d, "db", most), "b=2")
			}
		}
	}
}

// P905: Trim's error is the answer, but the store is not broken; the snapshot stands.
func TestSnapTrimFaults(t *testing.T) {
	for kind, want := range kinds() {
		for at := 3; at <= 5; at++ {
			what := fmt.Sprint("fault ", kind, " at ", at)
			d := room(t)
			s := opened(t, d, "db", 1)
			puts(t, s, "a=1 b=2", "-a", "c=3")
			d.Arm([]disk.Fault{{At: at, Kind: kind}})
			is(t, what, s.Snap(), want)
			has(t, what, s, "b=2 c=3")
			if kind == disk.Crash {
				d.Boot(nil)
			}
			if got := len(d.List()); got != 4-(at-3) {
				t.Errorf("%s: %d files", what, got)
			}
			has(t, what+", opened", opened(t, d, "db", 1), "b=2 c=3")
			puts(t, s, "d=4")
			has(t, what+", goes on", opened(t, d, "db", 1), "b=2 c=3 d=4")
			is(t, what+": Snap again", s.Snap(), api.OK)
			if strings.Join(d.List(), " ") != "db.5" {
				t.Errorf("%s: %v", what, d.List())
			}
			has(t, what+", trimmed", opened(t, d, "db", 1), "b=2 c=3 d=4")
		}
	}
}

// P905, P903: Trim's error does not break the store, but a disk that is down does so at the next Put.
func TestSnapTrimCrash(t *testing.T) {
	d := room(t)
	s := opened(t, d, "db", 1)
	puts(t, s, "a=1", "b=2")
	d.Arm([]disk.Fault{{At: 3, Kind: disk.Crash}})
	is(t, "Snap", s.Snap(), api.ErrCrash)
	is(t, "Put, down", s.Put(nil), api.ErrCrash)
	halted(t, "down", d, s, "a=1 b=2")
}
