package wal_test

import (
	"fmt"
	"math"
	"strings"
	"testing"

	"conclave/api"
	"conclave/disk"
	"conclave/wal"
)

// P802: the arguments' errors and their order; none of them is a step.
func TestOpenArguments(t *testing.T) {
	refused(t, "nil", nil, "log", 1, api.ErrNil)
	refused(t, "nil, and no name", nil, "", 0, api.ErrNil)
	d := room(t)
	for _, name := range []string{"", strings.Repeat("x", 17), "a.b", "log.0", "a b", "\u00e4", "a\x00"} {
		refused(t, "no name", d, name, 1, api.ErrArg)
	}
	for _, most := range []int{0, -1, math.MinInt} {
		refused(t, "no most", d, "log", most, api.ErrArg)
	}
	for _, most := range []int{1, 2, math.MaxInt} {
		has(t, "a new log", opened(t, d, strings.Repeat("x", 16), most), "0:")
	}
	steps := d.Steps()
	d.Arm([]disk.Fault{{At: 1, Kind: disk.Crash}})
	is(t, "the crash", d.Append("log.0", nil), api.ErrCrash)
	refused(t, "down", d, "log", 1, api.ErrCrash)
	refused(t, "down, no name", d, "log.", 1, api.ErrArg)
	refused(t, "down, no most", d, "log", 0, api.ErrArg)
	if d.Steps() != steps+1 || len(d.List()) != 0 {
		t.Errorf("Open made %d steps", d.Steps()-steps-1)
	}
	d.Boot(nil)
	has(t, "up again", opened(t, d, "log", 1), "0:")
	files(t, "a log without records", d, "")
}

// P802: what is there is read in order, and goes on.
func TestOpenRecords(t *testing.T) {
	d := room(t, "log.0", framed("a", "", "ccc"))
	l := opened(t, d, "log", 100)
	has(t, "one file", l, "0: a  ccc")
	put(t, l, "d")
	files(t, "one file", d, "log.0=53")
	d = room(t, "log.0", framed("a", "b"), "log.2", framed("c"), "log.3", framed("d", "e", "f"))
	l = opened(t, d, "log", 39)
	has(t, "three files", l, "0: a b c d e f")
	put(t, l, "g")
	files(t, "three files", d, "log.0=26 log.2=13 log.3=39 log.6=13")
	has(t, "three files, again", opened(t, d, "log", 1), "0: a b c d e f g")
	big := strings.Repeat("x", api.MaxRecord)
	d = room(t, "log.0", framed(big, big))
	has(t, "great records", opened(t, d, "log", 1), "0: "+big+" "+big)
	d = room(t, "log.0", framed(big+"x"))
	refused(t, "a record too great", d, "log", 1, api.ErrRot)
}

// P802: names that are none of the log's files are passed over, whatever they hold: they are not read either.
func TestOpenPassedOver(t *testing.T) {
	names := []string{"log", "log.", "log.00", "log.01", "log.0000000000", "log.x", "log.1x", "log.x1", "log.1000000000", "log.9999999999", "log.-1", "log.-0", "log.+1", "log.0.1", "log.1.", "log..1", "log.0_1", "log.0x1", "log.1e3", "log.18446744073709551616", "log2.0", "logs.0", "lo.0", "Log.0", "LOG.0", "alog.0", "log-0", "log0", ".0", "0", "g.0", "log.999999999999999999999999"}
	for at := 0; at < len(names); at += 8 {
		d := room(t)
		for _, name := range names[at:min(at+8, len(names))] {
			is(t, "Append to "+name, d.Append(name, []byte("rot: these bytes are no frame")), api.OK)
		}
		before, steps := len(d.List()), d.Steps()
		l := opened(t, d, "log", 20)
		if d.Steps() != steps {
			t.Errorf("Open among %q made %d steps", d.List(), d.Steps()-steps)
		}
		has(t, "passed over", l, "0:")
		put(t, l, "one", "two", "three")
		has(t, "passed over", opened(t, d, "log", 20), "0: one two three")
		l = opened(t, d, "log", 20)
		is(t, "Trim", l.Trim(3), api.OK)
		if len(d.List()) != before+1 {
			t.Errorf("files: %q", d.List())
		}
		for _, name := range names[at:min(at+8, len(names))] {
			if b, err := d.Read(name); string(b) != "rot: these bytes are no frame" || err != api.OK {
				t.Errorf("%s: %q, %d", name, b, err)
			}
		}
	}
}

// P802: files go by their numbers, not by the bytes of their names.
func TestOpenOrder(t *testing.T) {
	d := room(t, "log.10", framed("k"), "log.11", framed(strings.Split(strings.Repeat("x,", 88)+"x", ",")...), "log.100", framed("last"), "log.9", framed("j"), "log.2", framed("c", "d", "e", "f", "g", "h", "i"), "log.0", framed("a", "b"))
	l := opened(t, d, "log", 16)
	has(t, "by numbers", l, "0: a b c d e f g h i j k"+strings.Repeat(" x", 89)+" last")
	put(t, l, "more")
	if b, _ := d.Read("log.101"); string(b) != framed("more") {
		t.Errorf("files: %q", d.List())
	}
	is(t, "Trim", l.Trim(10), api.OK)
	if got := fmt.Sprint(d.List()); got != "[log.10 log.100 log.101 log.11]" {
		t.Errorf("files: %s", got)
	}
	d = room(t, "log.9", framed("a"), "log.10", framed("b")+"cut")
	has(t, "the last one is 10", opened(t, d, "log", 16), "9: a b")
	files(t, "cut", d, "log.10=13 log.9=13")
	d = room(t, "log.9", framed("a")+"cut", "log.10", framed("b"))
	refused(t, "9 is not the last one", d, "log", 16, api.ErrRot)
}

// P802: a file's number that is not the next record's: too great, too small, behind an empty file; the first one's may be any.
func TestOpenNumbers(t *testing.T) {
	for _, second := range []int{1, 3, 4, 12, 1e9 - 1} {
		d := room(t, "log.0", framed("a", "b"), wal.File("log", second), framed("c"))
		refused(t, fmt.Sprint("0 and ", second), d, "log", 1, api.ErrRot)
		if len(d.List()) != 2 {
			t.Errorf("files: %q", d.List())
		}
	}
	refused(t, "an empty file", room(t, "log.0", "", "log.1", framed("b")), "log", 1, api.ErrRot)
	refused(t, "an empty file between", room(t, "log.0", framed("a"), "log.1", "", "log.2", framed("b")), "log", 1, api.ErrRot)
	refused(t, "the third one", room(t, "log.0", framed("a"), "log.1", framed("b"), "log.3", framed("d")), "log", 1, api.ErrRot)
	refused(t, "the last one, though it is empty", room(t, "log.0", framed("a"), "log.2", ""), "log", 1, api.ErrRot)
	refused(t, "the last one, though it is cut", room(t, "log.0", framed("a"), "log.2", "x"), "log", 1, api.ErrRot)
	for _, first := range []int{0, 1, 7, 1e9 - 1} {
		d := room(t, wal.File("log", first), framed("a", "b"))
		l := opened(t, d, "log", 100)
		has(t, "begins there", l, fmt.Sprint(first, ": a b"))
		d = room(t, wal.File("log", first), "")
		l = opened(t, d, "log", 1)
		has(t, "begins there, empty", l, fmt.Sprint(first, ":"))
		put(t, l, "c")
		files(t, "begins there, empty", d, fmt.Sprint("log.", first, "=13"))
	}
	has(t, "two, not from 0 on", opened(t, room(t, "log.5", framed("a", "b"), "log.7", framed("c")), "log", 1), "5: a b c")
	has(t, "the last one is empty", opened(t, room(t, "log.5", framed("a", "b"), "log.7", ""), "log", 1), "5: a b")
}

// P802: an end that is cut, at each place: in the last file it is taken off, and what is left is safe; in another one it is ErrRot, and nothing is taken off.
func TestOpenCut(t *testing.T) {
	last := framed("bb")
	for n := range len(last) {
		d := room(t, "log.0", framed("a"), "log.1", framed("b", "")+last[:n])
		steps := d.Steps()
		l := opened(t, d, "log", 1000)
		want := 3
		if n == 0 {
			want = 2
		}
		if d.Steps() != steps+want {
			t.Errorf("cut at %d: %d steps", n, d.Steps()-steps)
		}
		has(t, "cut", l, "0: a b ")
		files(t, "cut", d, "log.0=13 log.1=25")
		put(t, l, "c")
		is(t, "Sync", l.Sync(), api.OK)
		has(t, "cut, and goes on", opened(t, d, "log", 1000), "0: a b  c")

		d = room(t, "log.0", last[:n])
		has(t, "cut, nothing whole", opened(t, d, "log", 1000), "0:")
		files(t, "cut, nothing whole", d, "log.0=0")

		d = room(t, "log.0", framed("a", "")+last[:n], "log.2", framed("c"))
		if n == 0 {
			has(t, "nothing cut", opened(t, d, "log", 1000), "0: a  c")
			continue
		}
		refused(t, "cut, not the last", d, "log", 1000, api.ErrRot)
		files(t, "cut, not the last", d, fmt.Sprint("log.0=", 25+n, " log.2=13"))
	}
}

// P802: rot in the last file is no end that is cut, wherever it stands: nothing is taken off.
func TestOpenRot(t *testing.T) {
	wrong := []byte(framed("bb"))
	for at := range wrong {
		wrong[at] ^= 0x10
		for _, rest := range []string{"", framed("c"), "cut"} {
			d := room(t, "log.0", framed("a")+string(wrong)+rest)
			refused(t, fmt.Sprint("rot at ", at), d, "log", 1, api.ErrRot)
			files(t, "rot", d, fmt.Sprint("log.0=", 27+len(rest)))
		}
		wrong[at] ^= 0x10
	}
	refused(t, "rot ahead of an end that is cut", room(t, "log.0", framed("a")+strings.Repeat("x", 12)), "log", 1, api.ErrRot)
	has(t, "one byte less", opened(t, room(t, "log.0", framed("a")+strings.Repeat("x", 11)), "log", 1), "0: a")
	refused(t, "rot in the first", room(t, "log.0", strings.Repeat("x", 12), "log.1", framed("b")), "log", 1, api.ErrRot)
}

// P802: the disk's errors, of each Read and of Truncate; behind them the disk is as it was.
func TestOpenFaults(t *testing.T) {
	for kind, want := range map[int]api.Errno{disk.IO: api.ErrIO, disk.Full: api.ErrFull, disk.Crash: api.ErrCrash} {
		for at := 1; at <= 6; at++ {
			d := room(t, "log.0", framed("a"), "log.1", framed("b"), "log.2", framed("c")+"cut", "other", "x")
			is(t, "Arm", d.Arm([]disk.Fault{{At: at, Kind: kind}}), api.OK)
			what, steps := fmt.Sprint("fault ", kind, " at ", at), d.Steps()
			if at > 4 { // three files are read, and one is cut
				has(t, what, opened(t, d, "log", 1), "0: a b c")
				continue
			}
			refused(t, what, d, "log", 1, want)
			if d.Steps() != steps+at || d.Down() != (kind == disk.Crash) {
				t.Errorf("%s: %d steps, down %v", what, d.Steps()-steps, d.Down())
			}
			d.Boot(nil)
			files(t, what, d, "log.0=13 log.1=13 log.2=16 other=1")
			has(t, what, opened(t, d, "log", 1), "0: a b c")
			files(t, what, d, "log.0=13 log.1=13 log.2=13 other=1")
		}
	}
	// a file is read ahead of what its number says, and behind what the files ahead of it hold
	d := room(t, "log.0", framed("a"), "log.2", framed("b"))
	d.Arm([]disk.Fault{{At: 2, Kind: disk.IO}})
	refused(t, "Read ahead of the number", d, "log", 1, api.ErrIO)
	d = room(t, "log.0", framed("a")+"cut", "log.1", framed("b"))
	d.Arm([]disk.Fault{{At: 2, Kind: disk.IO}})
	refused(t, "Read behind rot", d, "log", 1, api.ErrRot)
}

// P802: a log whose first files were trimmed away begins where it began.
func TestOpenTrimmed(t *testing.T) {
	d := room(t)
	l := opened(t, d, "log", 20)
	put(t, l, "a", "b", "c", "d", "e")
	is(t, "Sync", l.Sync(), api.OK)
	is(t, "Trim", l.Trim(3), api.OK)
	files(t, "trimmed", d, "log.2=26 log.4=13")
	l = opened(t, d, "log", 20)
	has(t, "trimmed", l, "2: c d e")
	is(t, "Trim", l.Trim(9), api.OK)
	l = opened(t, d, "log", 20)
	has(t, "trimmed to the last", l, "4: e")
	put(t, l, "f", "g")
	files(t, "goes on", d, "log.4=26 log.6=13")
	has(t, "goes on", opened(t, d, "log", 20), "4: e f g")
}
