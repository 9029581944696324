package kv_test

import (
	"fmt"
	"strings"
	"testing"

	"conclave/api"
	"conclave/disk"
	"conclave/kv"
	"conclave/wal"
)

// P902: each error of wal.Open, in its order.
func TestOpenLogErrors(t *testing.T) {
	refused(t, "no disk", nil, "db", 1, api.ErrNil)
	refused(t, "no disk, no name", nil, "", 0, api.ErrNil)
	d := written(t, batch("a=1"), batch("b=2"), batch("c=3"), batch("e=4"), batch("f=5"))
	for _, name := range []string{"", ".", "d b", "db.", "seventeenletters1"} {
		refused(t, "a name that is none", d, name, 1, api.ErrArg)
	}
	for _, most := range []int{0, -1, -1 << 63} {
		refused(t, "most", d, "db", most, api.ErrArg)
	}
	for at := 1; at <= 3; at++ {
		for kind, want := range map[int]api.Errno{disk.IO: api.ErrIO, disk.Full: api.ErrFull} {
			d.Arm([]disk.Fault{{At: at, Kind: kind}})
			refused(t, fmt.Sprint("read ", at), d, "db", 1, want)
		}
	}
	d.Arm([]disk.Fault{{At: 2, Kind: disk.Crash}})
	refused(t, "the crash", d, "db", 1, api.ErrCrash)
	refused(t, "down", d, "db", 1, api.ErrCrash)
	refused(t, "down, no name", d, "", 1, api.ErrArg)
	d.Boot(nil)
	has(t, "up again", opened(t, d, "db", 1), "a=1 b=2 c=3 e=4 f=5")
	d.Append("db.4", []byte("cut"))
	d.Arm([]disk.Fault{{At: 4, Kind: disk.IO}})
	refused(t, "in Truncate", d, "db", 1, api.ErrIO)
	has(t, "a cut end", opened(t, d, "db", 1), "a=1 b=2 c=3 e=4 f=5")
	is(t, "Spoil", d.Spoil("db.2", 13, 1), api.OK)
	refused(t, "rot", d, "db", 1, api.ErrRot)
}

// P902: logs without records, and of a name that no file has.
func TestOpenNothing(t *testing.T) {
	d := room(t)
	has(t, "a new disk", opened(t, d, "db", 1), "")
	if len(d.List()) != 0 || d.Steps() != 0 {
		t.Errorf("Open wrote: %v, %d steps", d.List(), d.Steps())
	}
	is(t, "a file without bytes", d.Append("db.7", nil), api.OK)
	s := opened(t, d, "db", 1)
	has(t, "a file without bytes", s, "")
	puts(t, s, "a=1")
	logged(t, "the number goes on", d, "db", "7: "+"000001610000000131")
	has(t, "another name", opened(t, d, "db7", 1), "")
}

// P902: what records do, in order, from the last snapshot's on.
func TestOpen(t *testing.T) {
	for _, c := range []struct {
		records []string
		want    string
	}{
		{[]string{batch("")}, ""},
		{[]string{snap("")}, ""},
		{[]string{batch("a=1 b=2")}, "a=1 b=2"},
		{[]string{batch("b=2"), batch("a=1")}, "a=1 b=2"},
		{[]string{batch("a=1"), batch("a=2")}, "a=2"},
		{[]string{batch("a=1"), batch("-a")}, ""},
		{[]string{batch("-a"), batch("a=1")}, "a=1"},
		{[]string{batch("a=1 -a a=2 b=1 -b -c")}, "a=2"},
		{[]string{batch("b=1 a=1 b=2")}, "a=1 b=2"},
		{[]string{snap("a=1 b=2")}, "a=1 b=2"},
		{[]string{snap("a=1 b=2"), batch("-a c=3")}, "b=2 c=3"},
		{[]string{batch("a=1 b=2"), snap("a=9 c=3")}, "a=9 c=3"},
		{[]string{batch("a=1 b=2"), snap("")}, ""},
		{[]string{snap("a=1"), snap("b=2"), snap("c=3")}, "c=3"},
		{[]string{snap("a=1"), batch("b=2"), snap("c=3"), batch("d=4 -c"), batch("a=")}, "a= d=4"},
		{[]string{snap("a=1"), snap("b=2"), batch("a=7"), batch("-b")}, "a=7"},
		{[]string{snap("a=1 aa=2 ab=3 b=4")}, "a=1 aa=2 ab=3 b=4"},
		{[]string{snap("\x7f=1 \x80=2 \xff=3")}, "\x7f=1 \x80=2 \xff=3"},
	} {
		what := fmt.Sprintf("%q", c.records)
		d := written(t, c.records...)
		has(t, what, opened(t, d, "db", 1), c.want)
		d.Boot(nil)
		has(t, what+", booted", opened(t, d, "db", 1000), c.want)
	}
}

// P902: a log whose first records are trimmed away goes on from what is there, a snapshot or not.
func TestOpenTrimmed(t *testing.T) {
	for _, c := range []struct{ third, want string }{{batch("c=3"), "c=3 d=4"}, {snap("b=2 c=3"), "b=2 c=3 d=4"}} {
		d := room(t)
		l, _ := wal.Open(d, "db", 1)
		for _, r := range []string{batch("a=1"), batch("b=2"), c.third, batch("d=4")} {
			is(t, "Append", l.Append([]byte(r)), api.OK)
		}
		is(t, "Trim", l.Trim(2), api.OK)
		has(t, "trimmed", opened(t, d, "db", 1), c.want)
	}
}

// rotten: records that a log of a store can't have.
func rotten() map[string]string {
	return map[string]string{
		"nothing":                    "",
		"the byte 2":                 "\x02",
		"the byte 255":               "\xff" + batch("a=1")[1:],
		"the byte 2 ahead":           "\x02" + batch("a=1")[1:],
		"no byte ahead":              batch("aa=1")[1:] + "\x00",
		"a batch that is cut":        batch("a=1 b=22")[:12],
		"a batch and a byte":         batch("a=1") + "\x00",
		"a batch of a key of none":   "\x00\x00\x00\x00\x00\x00\x00",
		"a batch of a long key":      "\x00" + string(record(put(strings.Repeat("k", 65), ""))),
		"a snapshot that is cut":     snap("a=1 b=22")[:12],
		"a snapshot and a byte":      snap("a=1") + "\x00",
		"a snapshot of a long key":   "\x01" + string(record(put(strings.Repeat("k", 65), ""))),
		"a snapshot with a gone":     snap("-a"),
		"with a gone at its end":     snap("a=1 b=2 -c"),
		"with a gone in the midst":   snap("a=1 -b c=3"),
		"a snapshot that falls":      snap("b=1 a=2"),
		"that falls at its end":      snap("a=1 c=2 b=3"),
		"that has a key twice":       snap("a=1 a=1"),
		"twice at its end":           snap("a=1 b=2 b=3"),
		"a longer one ahead":         snap("aa=1 a=2"),
		"that falls by its bytes":    snap("\x80=1 \x7f=2"),
		"that falls by its first":    snap("b=1 aaa=2"),
		"that rises then falls back": snap("b=1 c=1 a=1 d=1"),
	}
}

// P902: a record that is none of these, wherever it stands: ahead of a snapshot, behind one, alone.
func TestOpenRot(t *testing.T) {
	good := []string{batch("a=1"), snap("a=1"), batch("b=2"), snap("c=2"), batch("d=4")}
	for what, bad := range rotten() {
		refused(t, what, written(t, bad), "db", 1, api.ErrRot)
		for at := range len(good) + 1 {
			all := append(append(append([]string{}, good[:at]...), bad), good[at:]...)
			refused(t, fmt.Sprint(what, " at ", at), written(t, all...), "db", 1, api.ErrRot)
		}
	}
	has(t, "without it", opened(t, written(t, good...), "db", 1), "c=2 d=4")
}

// P806, P902: one byte that is another one, at each place of a store's files.
func TestOpenSpoilt(t *testing.T) {
	d := room(t)
	s := opened(t, d, "db", 60)
	puts(t, s, "a=1 b=2", "-a c=3", "d=4")
	is(t, "Snap", s.Snap(), api.OK)
	puts(t, s, "e=5", "-b")
	for _, name := range d.List() {
		b, _ := d.Read(name)
		for at := range b {
			for _, by := range []byte{1, 2, 128, 255} {
				d.Spoil(name, at, by)
				refused(t, fmt.Sprint(name, " at ", at), d, "db", 60, api.ErrRot)
				d.Spoil(name, at, by)
			}
		}
	}
	has(t, "as it was", opened(t, d, "db", 60), "c=3 d=4 e=5")
}

// P902: records of as many bytes as a log takes, a batch and a snapshot.
func TestOpenBig(t *testing.T) {
	val := strings.Repeat("v", api.MaxRecord-8)
	for _, first := range []string{"\x00", "\x01"} {
		d := written(t, first+string(record(put("k", val))))
		has(t, "the greatest", opened(t, d, "db", 1), "k="+val)
	}
}

// P902, rule 5: most is no matter to what is there.
func TestOpenMost(t *testing.T) {
	d := room(t)
	for i, most := range []int{1, 1000, 30, 1 << 62, 2, 50} {
		s := opened(t, d, "db", most)
		is(t, "Put", s.Put([]kv.Change{put(fmt.Sprint("k", i), fmt.Sprint(most))}), api.OK)
	}
	has(t, "all", opened(t, d, "db", 7), fmt.Sprint("k0=1 k1=1000 k2=30 k3=", 1<<62, " k4=2 k5=50"))
}
