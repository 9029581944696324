package disk_test

import (
	"bytes"
	"fmt"
	"slices"
	"testing"

	"conclave/api"
	"conclave/disk"
)

// Rule 4: bytes that were appended are neither changed nor kept, spare room too.
func TestAppendHandedIn(t *testing.T) {
	d := made(t, 100)
	held := []byte("abcdefgh")
	is(t, "Append", d.Append("a", held[:3]), api.OK)
	is(t, "Append", d.Append("a", []byte("xyz")), api.OK)
	is(t, "Spoil", d.Spoil("a", 0, 0xff), api.OK)
	is(t, "Spoil", d.Spoil("a", 0, 0xff), api.OK)
	if string(held) != "abcdefgh" {
		t.Errorf("changed: %q", held)
	}
	for i := range held {
		held[i] = '-'
	}
	holds(t, d, "a=abcxyz")
}

// Rule 4: a plan and the numbers of Boot are neither changed nor kept.
func TestPlanHandedIn(t *testing.T) {
	d := made(t, 100)
	d.Append("a", []byte("abc"))
	plan := []disk.Fault{{3, disk.IO}, {1, disk.Full}, {9, disk.Crash}}
	is(t, "Arm", d.Arm(plan[:2]), api.OK)
	if fmt.Sprint(plan) != "[{3 1} {1 2} {9 3}]" {
		t.Errorf("changed: %v", plan)
	}
	for i := range plan {
		plan[i] = disk.Fault{At: 2, Kind: disk.Crash}
	}
	is(t, "step 1", d.Append("a", nil), api.ErrFull)
	is(t, "step 2", d.Append("a", nil), api.OK)
	is(t, "step 3", d.Append("a", nil), api.ErrIO)
	kept := []int{-5, 99, 7}
	d.Boot(kept[:2])
	if fmt.Sprint(kept) != "[-5 99 7]" {
		t.Errorf("changed: %v", kept)
	}
}

// Rule 4: what is handed out is new memory, spare room too.
func TestHandedOut(t *testing.T) {
	d := made(t, 100)
	d.Append("a", []byte("abc"))
	d.Append("b", []byte("de"))
	first, _ := d.Read("a")
	second, _ := d.Read("a")
	for i := range first[:cap(first)] {
		first[:cap(first)][i] = '-'
	}
	if string(second) != "abc" {
		t.Errorf("two answers share memory")
	}
	names := d.List()
	names[0] = "z"
	for i := range names[:cap(names)] {
		names[:cap(names)][i] = "z"
	}
	if !slices.Equal(d.List(), []string{"a", "b"}) {
		t.Errorf("List: %q", d.List())
	}
	holds(t, d, "a=abc", "b=de")
	d.Append("a", []byte("fgh"))
	d.Truncate("a", 2)
	d.Spoil("a", 0, 1)
	d.Append("a", []byte("++++"))
	if string(second) != "abc" {
		t.Errorf("an answer is written later on: %q", second)
	}
	_ = append(second, "++++"...)
	holds(t, d, "a=`b++++", "b=de")
}

// Rule 5: two disks share nothing.
func TestApart(t *testing.T) {
	d, e := made(t, 10), made(t, 10)
	d.Append("a", []byte("abc"))
	d.Arm([]disk.Fault{{1, disk.Crash}})
	d.Sync("a")
	if e.Down() || e.Steps() != 0 || len(e.List()) != 0 {
		t.Errorf("%v, %d, %q", e.Down(), e.Steps(), e.List())
	}
	is(t, "Append", e.Append("a", bytes.Repeat([]byte("x"), 10)), api.OK)
	d.Boot(nil)
	holds(t, d, "a=")
	holds(t, e, "a=xxxxxxxxxx")
}
