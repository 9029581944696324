package wal_test

import (
	"fmt"
	"math"
	"strings"
	"testing"

	"conclave/api"
	"conclave/disk"
	"conclave/wal"
)

// P803, P804: the calls of nil.
func TestNil(t *testing.T) {
	var l *wal.Log
	is(t, "Append", l.Append([]byte("a")), api.ErrNil)
	is(t, "Append of too much", l.Append(make([]byte, api.MaxRecord+1)), api.ErrNil)
	is(t, "Sync", l.Sync(), api.ErrNil)
	is(t, "Trim", l.Trim(0), api.ErrNil)
	b, err := l.Get(0)
	is(t, "Get", err, api.ErrNil)
	if len(b) != 0 || l.First() != 0 || l.End() != 0 {
		t.Errorf("of nil: %x, %d, %d", b, l.First(), l.End())
	}
}

// P803: records of nothing, of MaxRecord bytes and of one more, which is no step.
func TestAppendSizes(t *testing.T) {
	d := room(t)
	l := opened(t, d, "log", 1<<20)
	is(t, "Append of nil", l.Append(nil), api.OK)
	is(t, "Append of nothing", l.Append([]byte{}), api.OK)
	big := strings.Repeat("b", api.MaxRecord)
	put(t, l, big)
	steps := d.Steps()
	is(t, "Append of one more", l.Append([]byte(big+"b")), api.ErrBig)
	is(t, "Append of many more", l.Append(make([]byte, 1<<20)), api.ErrBig)
	if d.Steps() != steps {
		t.Errorf("%d steps", d.Steps()-steps)
	}
	has(t, "sizes", l, "0:   "+big)
	if b, _ := d.Read("log.0"); string(b) != framed("", "", big) {
		t.Errorf("the file: %d bytes", len(b))
	}
	d.Arm([]disk.Fault{{At: 1, Kind: disk.Crash}})
	is(t, "the crash", d.Sync("log.0"), api.ErrCrash)
	is(t, "Append of one more, down", l.Append([]byte(big+"b")), api.ErrBig)
	is(t, "Append, down", l.Append(nil), api.ErrCrash)
}

// P803: a file that has most bytes is the last one no more at the next record; one that has one fewer goes on.
func TestAppendMost(t *testing.T) {
	for _, c := range []struct {
		most int
		want string
	}{
		{1, "log.0=13 log.1=13 log.2=13 log.3=13 log.4=13"},
		{13, "log.0=13 log.1=13 log.2=13 log.3=13 log.4=13"},
		{14, "log.0=26 log.2=26 log.4=13"},
		{25, "log.0=26 log.2=26 log.4=13"},
		{26, "log.0=26 log.2=26 log.4=13"},
		{27, "log.0=39 log.3=26"},
		{52, "log.0=52 log.4=13"},
		{53, "log.0=65"},
		{math.MaxInt, "log.0=65"},
	} {
		d := room(t)
		l := opened(t, d, "log", c.most)
		put(t, l, "a", "b", "c", "d", "e")
		files(t, fmt.Sprint("most ", c.most), d, c.want)
		has(t, fmt.Sprint("most ", c.most), l, "0: a b c d e")
		d = room(t)
		for _, s := range []string{"a", "b", "c", "d", "e"} {
			put(t, opened(t, d, "log", c.most), s)
		}
		files(t, fmt.Sprint("most ", c.most, ", opened for each"), d, c.want)
	}
}

// P803: which steps an Append makes: the file that is left behind is synced, if something is not; so it is safe.
func TestAppendSteps(t *testing.T) {
	d := room(t)
	l := opened(t, d, "log", 20)
	for i, want := range []int{1, 1, 2, 1, 2} {
		steps := d.Steps()
		put(t, l, "a")
		if d.Steps() != steps+want {
			t.Errorf("record %d: %d steps, not %d", i, d.Steps()-steps, want)
		}
	}
	d.Boot(nil)
	files(t, "just the last one is not safe", d, "log.0=26 log.2=26 log.4=0")
	l = opened(t, d, "log", 20)
	has(t, "booted", l, "0: a a a a")
	put(t, l, "b", "b")
	is(t, "Sync", l.Sync(), api.OK)
	steps := d.Steps()
	put(t, l, "c")
	if d.Steps() != steps+1 {
		t.Errorf("behind Sync: %d steps", d.Steps()-steps)
	}
	steps = d.Steps()
	l = opened(t, d, "log", 13)
	put(t, l, "d")
	if d.Steps() != steps+5 { // four files are read, and nothing was appended since
		t.Errorf("behind Open: %d steps", d.Steps()-steps)
	}
}

// P803: each error of the disk in each step of an Append: the log is as it was, and goes on.
func TestAppendFaults(t *testing.T) {
	for kind, want := range map[int]api.Errno{disk.IO: api.ErrIO, disk.Full: api.ErrFull, disk.Crash: api.ErrCrash} {
		for _, c := range []struct {
			ahead, at int
			before    string
			after     string
		}{
			{0, 1, "", "log.0=13"},
			{1, 1, "log.0=13", "log.0=26"},
			{2, 1, "log.0=26", "log.0=26 log.2=13"}, // in Sync
			{2, 2, "log.0=26", "log.0=26 log.2=13"}, // behind it
			{3, 1, "log.0=26 log.2=13", "log.0=26 log.2=26"},
		} {
			what := fmt.Sprint("fault ", kind, " at ", c.at, " behind ", c.ahead)
			d := room(t)
			l := opened(t, d, "log", 20)
			old := strings.Repeat(" r", c.ahead)
			for range c.ahead {
				put(t, l, "r")
			}
			d.Arm([]disk.Fault{{At: c.at, Kind: kind}})
			is(t, what, l.Append([]byte("x")), want)
			has(t, what, l, "0:"+old)
			if kind == disk.Crash {
				is(t, what+", down", l.Append([]byte("x")), api.ErrCrash)
				has(t, what, l, "0:"+old)
				continue
			}
			files(t, what, d, c.before)
			put(t, l, "y")
			has(t, what, l, "0:"+old+" y")
			files(t, what, d, c.after)
			has(t, what, opened(t, d, "log", 20), "0:"+old+" y")
		}
	}
}

// P803: a disk without room, and one with MaxFiles files.
func TestAppendNoRoom(t *testing.T) {
	d, _ := disk.New(30)
	l := opened(t, d, "log", 13)
	put(t, l, "a", "b")
	is(t, "no room", l.Append(nil), api.ErrFull)
	has(t, "no room", l, "0: a b")
	is(t, "Trim", l.Trim(1), api.OK)
	put(t, l, "c")
	has(t, "room again", l, "1: b c")
	d = room(t)
	l = opened(t, d, "log", 1)
	for range api.MaxFiles {
		put(t, l, "r")
	}
	is(t, "one file more", l.Append([]byte("x")), api.ErrBig)
	is(t, "one file more, again", l.Append([]byte("x")), api.ErrBig)
	has(t, "files", l, "0:"+strings.Repeat(" r", api.MaxFiles))
	is(t, "Trim", l.Trim(1), api.OK)
	put(t, l, "s")
	has(t, "files", opened(t, d, "log", 1), "1:"+strings.Repeat(" r", api.MaxFiles-1)+" s")
}

// P801, P803: behind the greatest number no file can begin: the disk takes no empty name.
func TestAppendLastNumber(t *testing.T) {
	d := room(t, "log.999999999", framed("a"))
	l := opened(t, d, "log", 20)
	put(t, l, "b")
	is(t, "beyond", l.Append([]byte("c")), api.ErrArg)
	has(t, "beyond", l, "999999999: a b")
	files(t, "beyond", d, "log.999999999=26")
	l = opened(t, d, "log", 100)
	put(t, l, "c")
	has(t, "in the same file", opened(t, d, "log", 1), "999999999: a b c")
}

// P803: Sync is a step where something was appended since the last one that was OK, or Open, and else none.
func TestSync(t *testing.T) {
	d := room(t)
	l := opened(t, d, "log", 20)
	sync := func(what string, steps int, want api.Errno) {
		t.Helper()
		before := d.Steps()
		is(t, what, l.Sync(), want)
		if d.Steps() != before+steps {
			t.Errorf("%s: %d steps, not %d", what, d.Steps()-before, steps)
		}
	}
	sync("a new log", 0, api.OK)
	put(t, l, "a")
	sync("a record", 1, api.OK)
	sync("and again", 0, api.OK)
	put(t, l, "b")
	for _, kind := range []int{disk.IO, disk.Full} {
		d.Arm([]disk.Fault{{At: 1, Kind: kind}, {At: 2, Kind: kind}})
		sync("a fault", 1, []api.Errno{disk.IO: api.ErrIO, disk.Full: api.ErrFull}[kind])
		sync("a fault again", 1, []api.Errno{disk.IO: api.ErrIO, disk.Full: api.ErrFull}[kind])
		has(t, "a fault", l, "0: a b")
	}
	sync("behind faults", 1, api.OK)
	sync("behind faults, again", 0, api.OK)
	d.Boot(nil)
	files(t, "both are safe", d, "log.0=26")
	is(t, "Append of too much", l.Append(make([]byte, api.MaxRecord+1)), api.ErrBig)
	d.Arm([]disk.Fault{{At: 1, Kind: disk.IO}})
	is(t, "Append", l.Append([]byte("c")), api.ErrIO)
	sync("what was not appended", 0, api.OK)
	put(t, l, "c")
	d.Arm([]disk.Fault{{At: 1, Kind: disk.Crash}})
	sync("the crash", 1, api.ErrCrash)
	sync("down", 0, api.ErrCrash)
	d.Boot(nil)
	files(t, "not safe", d, "log.0=26 log.2=0")
	l = opened(t, d, "log", 20)
	has(t, "not safe", l, "0: a b")
	sync("behind Open", 0, api.OK)
	put(t, l, "d")
	l = opened(t, d, "log", 20)
	sync("behind Open, with something ahead of it", 0, api.OK)
	put(t, l, "e")
	sync("the last file", 1, api.OK)
	d.Boot(nil)
	has(t, "the last file", opened(t, d, "log", 20), "0: a b d e")
}

// P803: a Sync that began a file counts, though the record then failed; a failed one does not.
func TestSyncInAppend(t *testing.T) {
	d := room(t)
	l := opened(t, d, "log", 13)
	put(t, l, "a")
	d.Arm([]disk.Fault{{At: 1, Kind: disk.IO}})
	is(t, "in Sync", l.Append([]byte("b")), api.ErrIO)
	steps := d.Steps()
	d.Arm([]disk.Fault{{At: 2, Kind: disk.IO}})
	is(t, "behind Sync", l.Append([]byte("b")), api.ErrIO)
	is(t, "Sync", l.Sync(), api.OK)
	if d.Steps() != steps+2 {
		t.Errorf("%d steps", d.Steps()-steps)
	}
	d.Boot(nil)
	has(t, "safe", opened(t, d, "log", 13), "0: a")
}

// P803: Trim below the first record, at it, in the midst of a file, at its end, beyond the log's end, over and over.
func TestTrim(t *testing.T) {
	for _, c := range []struct {
		n    int
		want string
		has  string
	}{
		{math.MinInt, "log.0=26 log.2=26 log.4=26 log.6=13", "0: a b c d e f g"},
		{-1, "log.0=26 log.2=26 log.4=26 log.6=13", "0: a b c d e f g"},
		{0, "log.0=26 log.2=26 log.4=26 log.6=13", "0: a b c d e f g"},
		{1, "log.0=26 log.2=26 log.4=26 log.6=13", "0: a b c d e f g"},
		{2, "log.2=26 log.4=26 log.6=13", "2: c d e f g"},
		{3, "log.2=26 log.4=26 log.6=13", "2: c d e f g"},
		{4, "log.4=26 log.6=13", "4: e f g"},
		{5, "log.4=26 log.6=13", "4: e f g"},
		{6, "log.6=13", "6: g"},
		{7, "log.6=13", "6: g"},
		{8, "log.6=13", "6: g"},
		{math.MaxInt, "log.6=13", "6: g"},
	} {
		d := room(t)
		l := opened(t, d, "log", 20)
		put(t, l, "a", "b", "c", "d", "e", "f", "g")
		what, steps := fmt.Sprint("Trim of ", c.n), d.Steps()
		is(t, what, l.Trim(c.n), api.OK)
		if gone := 4 - len(d.List()); d.Steps() != steps+gone {
			t.Errorf("%s: %d steps", what, d.Steps()-steps)
		}
		has(t, what, l, c.has)
		files(t, what, d, c.want)
		for _, n := range []int{c.n, l.First(), l.First() - 1, 0} {
			is(t, what+", again", l.Trim(n), api.OK)
		}
		has(t, what, l, c.has)
		put(t, l, "h")
		has(t, what, l, c.has+" h")
		has(t, what, opened(t, d, "log", 20), c.has+" h")
	}
	d := room(t)
	l := opened(t, d, "log", 1)
	is(t, "Trim of a new log", l.Trim(5), api.OK)
	has(t, "a new log", l, "0:")
	if d.Steps() != 0 {
		t.Errorf("Trim of a new log: %d steps", d.Steps())
	}
}

// P803: the disk's error on the way ends Trim: what went ahead of it is gone, the rest is there.
func TestTrimFaults(t *testing.T) {
	for kind, want := range map[int]api.Errno{disk.IO: api.ErrIO, disk.Full: api.ErrFull, disk.Crash: api.ErrCrash} {
		for at, left := range []string{1: "0: a b c d", 2: "1: b c d", 3: "2: c d", 4: "3: d"} {
			if at == 0 {
				continue
			}
			d := room(t)
			l := opened(t, d, "log", 1)
			put(t, l, "a", "b", "c", "d")
			is(t, "Sync", l.Sync(), api.OK)
			d.Arm([]disk.Fault{{At: at, Kind: kind}})
			what := fmt.Sprint("fault ", kind, " at ", at)
			if at == 4 { // the last file is not removed
				is(t, what, l.Trim(9), api.OK)
			} else {
				is(t, what, l.Trim(9), want)
			}
			has(t, what, l, left)
			d.Boot(nil)
			has(t, what, opened(t, d, "log", 1), left)
			is(t, what+", again", l.Trim(9), api.OK)
			has(t, what, l, "3: d")
			files(t, what, d, "log.3=13")
		}
	}
	d := room(t)
	l := opened(t, d, "log", 1)
	put(t, l, "a", "b", "c")
	is(t, "Remove", d.Remove("log.1"), api.OK)
	is(t, "a file that is gone", l.Trim(2), api.ErrGone)
	has(t, "a file that is gone", l, "1: b c")
}

// P804: Get below First, at it, at End - 1 and at End; First and End, of a new log and of trimmed ones. No look is a step, and none asks the disk.
func TestGet(t *testing.T) {
	d := room(t)
	l := opened(t, d, "log", 20)
	looks := func(what string, first, end int) {
		t.Helper()
		steps := d.Steps()
		if l.First() != first || l.End() != end {
			t.Errorf("%s: %d, %d, not %d, %d", what, l.First(), l.End(), first, end)
		}
		for n := range 9 {
			b, err := l.Get(n)
			want, wrong := fmt.Sprint("r", n), api.OK
			if n < first || n >= end {
				want, wrong = "", api.ErrGone
			}
			if string(b) != want || err != wrong {
				t.Errorf("%s: Get of %d: %q, %d", what, n, b, err)
			}
		}
		for _, n := range []int{-1, math.MinInt, math.MaxInt, first - 1, end, end + 1} {
			if b, err := l.Get(n); len(b) != 0 || err != api.ErrGone {
				t.Errorf("%s: Get of %d: %q, %d", what, n, b, err)
			}
		}
		if d.Steps() != steps {
			t.Errorf("%s: %d steps", what, d.Steps()-steps)
		}
	}
	looks("a new log", 0, 0)
	for n := range 5 {
		put(t, l, fmt.Sprint("r", n))
		looks("appended", 0, n+1)
	}
	is(t, "Trim", l.Trim(3), api.OK)
	looks("trimmed", 2, 5)
	l = opened(t, d, "log", 20)
	looks("opened", 2, 5)
	put(t, l, "r5")
	looks("appended", 2, 6)
	is(t, "Trim", l.Trim(6), api.OK)
	looks("trimmed to the last file", 4, 6)
	d.Arm([]disk.Fault{{At: 1, Kind: disk.Crash}})
	is(t, "the crash", l.Sync(), api.ErrCrash)
	looks("down", 4, 6)
	d.Boot(nil)
	l = opened(t, d, "log", 20)
	looks("booted", 4, 4)
}
