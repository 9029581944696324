package kv_test

import (
	"bytes"
	"fmt"
	"math/rand/v2"
	"slices"
	"strings"
	"testing"

	"conclave/api"
	"conclave/disk"
	"conclave/kv"
)

// P903 to P905: the calls of nil, whatever they are given.
func TestNil(t *testing.T) {
	var s *kv.Store
	for _, l := range [][]kv.Change{nil, list("a=1"), {put("", "")}, {put("k", strings.Repeat("v", 70000))}} {
		is(t, "Put", s.Put(l), api.ErrNil)
	}
	is(t, "Snap", s.Snap(), api.ErrNil)
	val, ok := s.Get([]byte("a"))
	if len(val) != 0 || ok || s.Len() != 0 || len(s.Range(nil, nil)) != 0 || len(s.Range([]byte("a"), []byte("b"))) != 0 {
		t.Errorf("of nil: %x, %v, %d", val, ok, s.Len())
	}
}

// P903: what batches do: several keys, one key several times, one that is gone and was never there, nothing.
func TestPut(t *testing.T) {
	d := room(t)
	s := opened(t, d, "db", 50)
	for _, c := range []struct{ batch, want string }{
		{"", ""},
		{"-a", ""},
		{"a=1", "a=1"},
		{"a=1", "a=1"},
		{"a=2 b=", "a=2 b="},
		{"-c -d", "a=2 b="},
		{"c=1 c=2 -c c=3", "a=2 b= c=3"},
		{"c=4 -c", "a=2 b="},
		{"-a a=5", "a=5 b="},
		{"-a -b -a", ""},
		{"b=1 a=1 ab=1", "a=1 ab=1 b=1"},
		{"-ab -b", "a=1"},
		{"", "a=1"},
	} {
		puts(t, s, c.batch)
		has(t, c.batch, s, c.want)
		has(t, c.batch+", opened again", opened(t, d, "db", 50), c.want)
		d.Boot(nil)
		has(t, c.batch+", booted", opened(t, d, "db", 50), c.want)
	}
}

// P903: a batch is one record, its first byte 0, appended and synced: two steps, whatever it holds.
func TestPutLog(t *testing.T) {
	d := room(t)
	s := opened(t, d, "db", 1000)
	for i, b := range []string{"", "a=1", "a=1", "-a -b", "a=1 b=2 c=3"} {
		steps := d.Steps()
		puts(t, s, b)
		if d.Steps() != steps+2 {
			t.Errorf("Put %d: %d steps", i, d.Steps()-steps)
		}
	}
	is(t, "gone, with a value", s.Put([]kv.Change{{Key: []byte("c"), Val: []byte("x"), Gone: true}}), api.OK)
	has(t, "gone, with a value", s, "a=1 b=2")
	d.Boot(nil)
	logged(t, "the log", d, "db", "0: 00 00"+"0001610000000131"+" 00"+"0001610000000131"+" 00"+"000161ffffffff"+"000162ffffffff"+
		" 00"+"0001610000000131"+"0001620000000132"+"0001630000000133"+" 00"+"000163ffffffff")
}

// P903: Batch's errors are no step, change nothing, and the store goes on.
func TestPutWrong(t *testing.T) {
	d := room(t)
	s := opened(t, d, "db", 50)
	puts(t, s, "a=1")
	steps := d.Steps()
	for _, c := range []struct {
		l    []kv.Change
		want api.Errno
	}{
		{[]kv.Change{put("", "x")}, api.ErrArg},
		{[]kv.Change{put("b", "x"), gone("")}, api.ErrArg},
		{[]kv.Change{gone("a"), put(strings.Repeat("k", 65), "")}, api.ErrArg},
		{[]kv.Change{gone("a"), put("b", strings.Repeat("v", 65536-8))}, api.ErrBig},
		{[]kv.Change{put("b", strings.Repeat("v", 65536)), put("", "")}, api.ErrArg},
	} {
		is(t, "Put", s.Put(c.l), c.want)
		has(t, "refused", s, "a=1")
	}
	if d.Steps() != steps {
		t.Errorf("%d steps", d.Steps()-steps)
	}
	val := strings.Repeat("v", api.MaxRecord-8)
	is(t, "Put of the greatest record", s.Put([]kv.Change{put("b", val)}), api.OK)
	has(t, "the greatest record", s, "a=1 b="+val)
	has(t, "the greatest record, opened again", opened(t, d, "db", 50), "a=1 b="+val)
}

// halted: a broken store says ErrHalt to Put and Snap, whatever they are given, without a step, and tells what it told.
func halted(t *testing.T, what string, d *disk.Disk, s *kv.Store, want string) {
	t.Helper()
	steps := d.Steps()
	for range 2 {
		for _, l := range [][]kv.Change{nil, list("a=9"), list("-a"), {put("", "")}, {put("k", strings.Repeat("v", 70000))}} {
			is(t, what+": Put", s.Put(l), api.ErrHalt)
		}
		is(t, what+": Snap", s.Snap(), api.ErrHalt)
	}
	if d.Steps() != steps {
		t.Errorf("%s: %d steps", what, d.Steps()-steps)
	}
	has(t, what, s, want)
}

// kinds: each fault, with its error.
func kinds() map[int]api.Errno {
	return map[int]api.Errno{disk.IO: api.ErrIO, disk.Full: api.ErrFull, disk.Crash: api.ErrCrash}
}

// P903: an error of Append, and of Sync: the store is as it was, and broken, though the disk is well again.
func TestPutFaults(t *testing.T) {
	for kind, want := range kinds() {
		for _, most := range []int{1, 1000} {
			for at := 1; at <= 2; at++ {
				what := fmt.Sprint("fault ", kind, " at ", at, ", most ", most)
				d := room(t)
				s := opened(t, d, "db", most)
				puts(t, s, "a=1 b=2")
				d.Arm([]disk.Fault{{At: at, Kind: kind}})
				is(t, what, s.Put(list("-a b=3 c=4")), want)
				halted(t, what, d, s, "a=1 b=2")
				d.Boot(nil)
				halted(t, what+", booted", d, s, "a=1 b=2")
				has(t, what+", booted and opened", opened(t, d, "db", most), "a=1 b=2")
			}
		}
	}
}

// P903: what Sync refused stands in the log: a store that is opened without a crash between has it.
func TestPutUnsynced(t *testing.T) {
	d := room(t)
	s := opened(t, d, "db", 1000)
	puts(t, s, "a=1")
	d.Arm([]disk.Fault{{At: 2, Kind: disk.IO}})
	is(t, "Put", s.Put(list("b=2")), api.ErrIO)
	halted(t, "broken", d, s, "a=1")
	s = opened(t, d, "db", 1000)
	has(t, "opened again", s, "a=1 b=2")
	puts(t, s, "c=3")
	d.Boot(nil)
	has(t, "booted", opened(t, d, "db", 1000), "a=1 b=2 c=3")
}

// P903: a disk without room, and one with MaxFiles files, break the store too: these are errors of Append.
func TestPutNoRoom(t *testing.T) {
	d, _ := disk.New(60)
	s := opened(t, d, "db", 1)
	puts(t, s, "a=1", "b=2")
	is(t, "no room", s.Put(list("a=3 b=4 c=5")), api.ErrFull)
	halted(t, "no room", d, s, "a=1 b=2")
	d = room(t)
	s = opened(t, d, "db", 1)
	for i := range api.MaxFiles {
		puts(t, s, fmt.Sprint("a=", i))
	}
	is(t, "one file more", s.Put(list("a=x")), api.ErrBig)
	halted(t, "one file more", d, s, "a=15")
	s = opened(t, d, "db", 1)
	is(t, "one file more, opened again", s.Snap(), api.ErrBig)
	halted(t, "one file more, opened again", d, s, "a=15")
}

// P904: Get of keys that are there, that are not, that were, and of those that can't be.
func TestGet(t *testing.T) {
	s := opened(t, room(t), "db", 1)
	long := strings.Repeat("k", api.MaxKey)
	puts(t, s, "a=1 ab= b=2 "+long+"=3", "-b")
	for key, want := range map[string]string{"a": "1", "ab": "", long: "3"} {
		if val, ok := s.Get([]byte(key)); !ok || string(val) != want {
			t.Errorf("Get of %q: %q, %v", key, val, ok)
		}
	}
	for _, key := range []string{"", "b", "A", "a\x00", "abc", long + "k", long[1:], strings.Repeat("k", 70000)} {
		if val, ok := s.Get([]byte(key)); ok || len(val) != 0 {
			t.Errorf("Get of %.99q: %q, %v", key, val, ok)
		}
	}
	if val, ok := s.Get(nil); ok || len(val) != 0 {
		t.Errorf("Get of nil: %q, %v", val, ok)
	}
	if s := opened(t, room(t), "db", 1); s.Len() != 0 || len(s.Range(nil, nil)) != 0 {
		t.Errorf("an empty store: %d, %v", s.Len(), s.Range(nil, nil))
	}
}

// P904: Range: its ends, without an end, from beyond to, and the order of bytes.
func TestRange(t *testing.T) {
	s := opened(t, room(t), "db", 1)
	puts(t, s, "\xff=7 b=4 ab=3 a=1 \x80=6 aa=2 z=5 B=0")
	all := "B=0 a=1 aa=2 ab=3 b=4 z=5 \x80=6 \xff=7"
	for _, c := range []struct{ from, to, want string }{
		{"", "", all},
		{"\x00", "", all},
		{"B", "", all},
		{"C", "", "a=1 aa=2 ab=3 b=4 z=5 \x80=6 \xff=7"},
		{"B\x00", "", "a=1 aa=2 ab=3 b=4 z=5 \x80=6 \xff=7"},
		{"\xff", "", "\xff=7"},
		{"\xff\x00", "", ""},
		{"\xff\xff", "", ""},
		{"", "B", ""},
		{"", "B\x00", "B=0"},
		{"", "a", "B=0"},
		{"", "\xff\xff", all},
		{"", "\xff", "B=0 a=1 aa=2 ab=3 b=4 z=5 \x80=6"},
		{"a", "b", "a=1 aa=2 ab=3"},
		{"a", "ab", "a=1 aa=2"},
		{"aa", "ab", "aa=2"},
		{"a", "a", ""},
		{"b", "a", ""},
		{"z", "B", ""},
		{"\x80", "a", ""},
		{"c", "y", ""},
		{"z", "\x80\x00", "z=5 \x80=6"},
		{"a", strings.Repeat("z", 500), "a=1 aa=2 ab=3 b=4 z=5"},
		{strings.Repeat("a", 500), "", "ab=3 b=4 z=5 \x80=6 \xff=7"},
	} {
		if got := told(s.Range([]byte(c.from), []byte(c.to))); got != c.want {
			t.Errorf("Range(%.20q, %.20q): %q, not %q", c.from, c.to, got, c.want)
		}
	}
	for _, c := range s.Range(nil, nil) {
		if c.Gone {
			t.Errorf("%q is gone", c.Key)
		}
	}
}

// P904: what is given rises by bytes, over many keys put in any order.
func TestRangeDrawn(t *testing.T) {
	r := rand.New(rand.NewPCG(9, 4))
	s := opened(t, room(t), "db", 1<<20)
	keys := map[string]int{}
	for range 500 {
		key := make([]byte, 1+r.IntN(4))
		for i := range key {
			key[i] = byte(r.IntN(4) * 85)
		}
		keys[string(key)]++
		is(t, "Put", s.Put([]kv.Change{{Key: key, Val: key}}), api.OK)
	}
	all := s.Range(nil, nil)
	rises := func(a, b kv.Change) int { return bytes.Compare(a.Key, b.Key) }
	if len(all) != len(keys) || s.Len() != len(keys) || !slices.IsSortedFunc(all, rises) {
		t.Errorf("%d of %d keys, %v", len(all), len(keys), slices.IsSortedFunc(all, rises))
	}
	for _, c := range all {
		if keys[string(c.Key)] == 0 || !bytes.Equal(c.Key, c.Val) {
			t.Errorf("%x: %x", c.Key, c.Val)
		}
	}
}
