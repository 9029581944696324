package disk_test

import (
	"fmt"
	"math"
	"strings"
	"testing"

	"conclave/api"
	"conclave/disk"
)

// made: a disk of so much room.
func made(t *testing.T, room int) *disk.Disk {
	t.Helper()
	d, err := disk.New(room)
	if err != api.OK || d == nil {
		t.Fatalf("New(%d): %v, %v", room, d, err)
	}
	return d
}

// is: an error as it should be.
func is(t *testing.T, what string, got, want api.Errno) {
	t.Helper()
	if got != want {
		t.Errorf("%s: %d, not %d", what, got, want)
	}
}

// holds: the files of a disk that is up, as name=bytes; it makes steps.
func holds(t *testing.T, d *disk.Disk, want ...string) {
	t.Helper()
	got := []string{}
	for _, name := range d.List() {
		b, err := d.Read(name)
		is(t, "Read of "+name, err, api.OK)
		got = append(got, name+"="+string(b))
	}
	if fmt.Sprint(got) != fmt.Sprint(want) {
		t.Errorf("files %q, not %q", got, want)
	}
}

// calls: each call that is a step, with a name (and as the other name).
func calls() map[string]func(d *disk.Disk, name string) api.Errno {
	return map[string]func(d *disk.Disk, name string) api.Errno{
		"Append":   func(d *disk.Disk, name string) api.Errno { return d.Append(name, []byte("+")) },
		"Sync":     func(d *disk.Disk, name string) api.Errno { return d.Sync(name) },
		"Truncate": func(d *disk.Disk, name string) api.Errno { return d.Truncate(name, 1) },
		"Rename":   func(d *disk.Disk, name string) api.Errno { return d.Rename(name, "other") },
		"Remove":   func(d *disk.Disk, name string) api.Errno { return d.Remove(name) },
		"Read": func(d *disk.Disk, name string) api.Errno {
			b, err := d.Read(name)
			if err != api.OK && b != nil {
				return -1
			}
			return err
		},
	}
}

// P701: the edges of a room; a disk begins without files, up, with no step.
func TestNew(t *testing.T) {
	for _, room := range []int{-1, math.MinInt, 1<<30 + 1, math.MaxInt} {
		if d, err := disk.New(room); d != nil || err != api.ErrArg {
			t.Errorf("New(%d): %v, %v", room, d, err)
		}
	}
	for _, room := range []int{0, 1, 1 << 30} {
		d := made(t, room)
		if len(d.List()) != 0 || d.Down() || d.Steps() != 0 {
			t.Errorf("New(%d): %q, %v, %d", room, d.List(), d.Down(), d.Steps())
		}
	}
	d := made(t, 0)
	is(t, "Append of nothing without room", d.Append("a", nil), api.OK)
	is(t, "Append of a byte without room", d.Append("a", []byte{1}), api.ErrFull)
	d = made(t, 1<<30)
	is(t, "Append with all room", d.Append("a", make([]byte, 1<<20)), api.OK)
}

// The words: what a name is.
func TestName(t *testing.T) {
	for n := range 40 {
		if got := disk.Name(strings.Repeat("x", n)); got != (n >= 1 && n <= 32) {
			t.Errorf("a name of %d bytes: %v", n, got)
		}
	}
	for b := range 256 {
		want := b >= 0x21 && b <= 0x7e
		for _, s := range []string{string([]byte{byte(b)}), string([]byte{'a', byte(b)}), string([]byte{byte(b), 'a'}), string([]byte{'a', byte(b), 'a'})} {
			if got := disk.Name(s); got != want {
				t.Errorf("%q: %v", s, got)
			}
		}
	}
	if disk.Name("\u00e4") || disk.Name(strings.Repeat("x", 31)+"\u00e4") || !disk.Name("log.0") {
		t.Errorf("names of letters")
	}
}

// P701: plans that may be, and those that may not.
func TestArm(t *testing.T) {
	var none *disk.Disk
	is(t, "Arm of nil", none.Arm(nil), api.ErrNil)
	is(t, "Arm of nil, with a wrong plan", none.Arm([]disk.Fault{{0, 0}}), api.ErrNil)
	d := made(t, 10)
	long := make([]disk.Fault, 64)
	for i := range long {
		long[i] = disk.Fault{At: 64 - i, Kind: 1 + i%2}
	}
	is(t, "Arm of 64", d.Arm(long), api.OK)
	for i := 1; i <= 65; i++ {
		want := api.OK
		if i <= 64 {
			want = []api.Errno{api.ErrIO, api.ErrFull}[(64-i)%2]
		}
		is(t, fmt.Sprint("step ", i, " of 64 faults"), d.Append("a", nil), want)
	}
	is(t, "Arm of 65", d.Arm(append(long, disk.Fault{At: 65, Kind: disk.IO})), api.ErrArg)
	for _, f := range []disk.Fault{{0, 1}, {-1, 1}, {math.MinInt, 1}, {1, 0}, {1, 4}, {1, -1}, {1, math.MaxInt}, {1, math.MinInt}} {
		is(t, fmt.Sprint("Arm of ", f), d.Arm([]disk.Fault{f}), api.ErrArg)
		is(t, fmt.Sprint("Arm of a right one and ", f), d.Arm([]disk.Fault{{2, 1}, f}), api.ErrArg)
		is(t, fmt.Sprint("Arm of a right one behind ", f), d.Arm([]disk.Fault{f, {2, 1}}), api.ErrArg)
	}
	is(t, "Arm of two at once", d.Arm([]disk.Fault{{5, 1}, {6, 1}, {5, 1}}), api.ErrArg)
	is(t, "Arm of two kinds at once", d.Arm([]disk.Fault{{5, 1}, {5, 3}}), api.ErrArg)
	is(t, "Arm of the last step", d.Arm([]disk.Fault{{math.MaxInt, 3}}), api.OK)
	is(t, "Arm of nothing", d.Arm([]disk.Fault{}), api.OK)
	if d.Steps() != 65 {
		t.Errorf("Arm made steps: %d", d.Steps())
	}
}

// P701: a plan is counted from Arm on, and takes the old one's place; a refused one leaves the old one and its count.
func TestArmAnew(t *testing.T) {
	d := made(t, 10)
	is(t, "Append", d.Append("a", nil), api.OK)
	is(t, "Arm", d.Arm([]disk.Fault{{2, disk.IO}}), api.OK)
	is(t, "first step", d.Sync("a"), api.OK)
	is(t, "Arm again", d.Arm([]disk.Fault{{2, disk.Full}, {4, disk.IO}}), api.OK)
	is(t, "first step again", d.Sync("a"), api.OK)
	is(t, "a wrong plan", d.Arm([]disk.Fault{{1, disk.Crash}, {1, disk.Crash}}), api.ErrArg)
	is(t, "a plan too long", d.Arm(make([]disk.Fault, 65)), api.ErrArg)
	is(t, "second step", d.Sync("a"), api.ErrFull)
	is(t, "third step", d.Sync("a"), api.OK)
	is(t, "fourth step", d.Sync("a"), api.ErrIO)
	is(t, "fifth step", d.Sync("a"), api.OK)
	is(t, "Arm", d.Arm([]disk.Fault{{1, disk.IO}}), api.OK)
	is(t, "Arm of nothing", d.Arm(nil), api.OK)
	is(t, "a step without a plan", d.Sync("a"), api.OK)
	if d.Steps() != 8 {
		t.Errorf("Steps: %d", d.Steps())
	}
}

// P701, P702: calls that do not get to the step are not counted, so no fault meets them; those that fail behind it are.
func TestCounted(t *testing.T) {
	d := made(t, 3)
	is(t, "Append", d.Append("a", []byte("abc")), api.OK)
	is(t, "Arm", d.Arm([]disk.Fault{{1, disk.IO}, {8, disk.Full}}), api.OK)
	for what, call := range calls() {
		is(t, what+" of no name", call(d, ""), api.ErrArg)
	}
	is(t, "Rename to no name", d.Rename("a", " "), api.ErrArg)
	d.List()
	d.Down()
	is(t, "Spoil", d.Spoil("a", 0, 0), api.OK)
	if d.Steps() != 1 {
		t.Errorf("Steps: %d", d.Steps())
	}
	is(t, "step 1", d.Append("a", nil), api.ErrIO)
	is(t, "step 2", d.Append("a", []byte("+")), api.ErrFull)
	is(t, "step 3", d.Sync("b"), api.ErrGone)
	is(t, "step 4", d.Truncate("a", 4), api.ErrArg)
	is(t, "step 5", d.Rename("a", "b"), api.ErrArg)
	is(t, "step 6", d.Remove("b"), api.ErrGone)
	_, err := d.Read("b")
	is(t, "step 7", err, api.ErrGone)
	is(t, "step 8", d.Sync("a"), api.ErrFull)
	if d.Steps() != 9 {
		t.Errorf("Steps: %d", d.Steps())
	}
}

// P701, P704: a plan laid on a disk that is down stands till Boot takes it.
func TestArmDown(t *testing.T) {
	d := made(t, 10)
	d.Append("a", nil)
	d.Arm([]disk.Fault{{1, disk.Crash}})
	is(t, "the crash", d.Sync("a"), api.ErrCrash)
	is(t, "Arm of a disk that is down", d.Arm([]disk.Fault{{1, disk.IO}}), api.OK)
	is(t, "a wrong plan on a disk that is down", d.Arm([]disk.Fault{{0, disk.IO}}), api.ErrArg)
	is(t, "still down", d.Sync("a"), api.ErrCrash)
	d.Boot(nil)
	is(t, "behind Boot", d.Sync("a"), api.OK)
}
