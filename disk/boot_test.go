package disk_test

import (
	"fmt"
	"math"
	"math/rand/v2"
	"slices"
	"strings"
	"testing"

	"conclave/api"
	"conclave/disk"
)

// The chapter's example, whole.
func TestExample(t *testing.T) {
	for kept, want := range map[int]string{0: "xy", 9: "xyz"} {
		d := made(t, 10)
		d.Append("a", []byte("xy"))
		d.Sync("a")
		d.Append("a", []byte("z"))
		d.Boot([]int{kept})
		if b, err := d.Read("a"); string(b) != want || err != api.OK {
			t.Errorf("Boot(%d): %q, %v, not %q", kept, b, err, want)
		}
	}
}

// P703: List goes by the names' bytes, whatever the order in which they came.
func TestList(t *testing.T) {
	want := []string{"!", "+", "-", ".", "0", "10", "9", "A", "Z", "_", "a", "aa", "ab", "b", "~", "~~"}
	r := rand.New(rand.NewPCG(7, 2))
	for range 50 {
		d := made(t, 10)
		for _, i := range r.Perm(len(want)) {
			is(t, "Append", d.Append(want[i], nil), api.OK)
		}
		if got := d.List(); !slices.Equal(got, want) {
			t.Fatalf("List: %q", got)
		}
	}
}

// P703: the looks of nil, and of a disk that is down; they make no steps.
func TestLooks(t *testing.T) {
	var none *disk.Disk
	if len(none.List()) != 0 || none.Down() || none.Steps() != 0 {
		t.Errorf("of nil: %q, %v, %d", none.List(), none.Down(), none.Steps())
	}
	d := made(t, 10)
	d.Append("b", []byte("x"))
	d.Append("a", nil)
	d.Arm([]disk.Fault{{2, disk.Crash}})
	d.Sync("b")
	if d.Down() || fmt.Sprint(d.List()) != "[a b]" || d.Steps() != 3 {
		t.Errorf("up: %q, %v, %d", d.List(), d.Down(), d.Steps())
	}
	d.Sync("a")
	if !d.Down() || len(d.List()) != 0 || d.Steps() != 4 {
		t.Errorf("down: %q, %v, %d", d.List(), d.Down(), d.Steps())
	}
	d.Boot(nil)
	if d.Down() || fmt.Sprint(d.List()) != "[a b]" || d.Steps() != 4 {
		t.Errorf("up again: %q, %v, %d", d.List(), d.Down(), d.Steps())
	}
}

// three: files that have six bytes each, of which two are safe.
func three(t *testing.T) *disk.Disk {
	t.Helper()
	d := made(t, 100)
	for _, name := range []string{"c", "a", "b"} {
		d.Append(name, []byte(name+"2"))
		d.Sync(name)
		d.Append(name, []byte("3456"))
	}
	return d
}

// P704: numbers for fewer files than there are, for more, below what is safe, below 0, beyond the file's end.
func TestBoot(t *testing.T) {
	for _, c := range []struct {
		kept []int
		want string
	}{
		{nil, "[a2 b2 c2]"},
		{[]int{}, "[a2 b2 c2]"},
		{[]int{4}, "[a234 b2 c2]"},
		{[]int{3, 5}, "[a23 b2345 c2]"},
		{[]int{0, 1, 2}, "[a2 b2 c2]"},
		{[]int{-1, math.MinInt, 3}, "[a2 b2 c23]"},
		{[]int{6, 7, math.MaxInt}, "[a23456 b23456 c23456]"},
		{[]int{2, 3, 4, 0, 9}, "[a2 b23 c234]"},
	} {
		for _, crash := range []bool{false, true} {
			d := three(t)
			if crash {
				d.Arm([]disk.Fault{{1, disk.Crash}})
				is(t, "the crash", d.Remove("a"), api.ErrCrash)
			}
			d.Boot(c.kept)
			if d.Down() {
				t.Errorf("Boot(%v): down", c.kept)
			}
			var got []string
			for _, name := range d.List() {
				b, _ := d.Read(name)
				got = append(got, string(b))
			}
			if fmt.Sprint(got) != c.want {
				t.Errorf("Boot(%v): %q, not %s", c.kept, got, c.want)
			}
			d.Boot([]int{0, 0, 0}) // all that was left is safe
			var again []string
			for _, name := range d.List() {
				b, _ := d.Read(name)
				again = append(again, string(b))
				is(t, "Rename behind Boot", d.Rename(name, name), api.OK)
			}
			if fmt.Sprint(again) != c.want {
				t.Errorf("Boot(%v) and again: %q, not %s", c.kept, again, c.want)
			}
		}
	}
}

// P704: what Boot cut off does not come back; the plan is gone with it.
func TestBootAnew(t *testing.T) {
	d := three(t)
	d.Arm([]disk.Fault{{1, disk.IO}, {2, disk.Crash}, {3, disk.Full}})
	is(t, "the plan", d.Sync("a"), api.ErrIO)
	d.Boot([]int{0})
	for range 4 {
		is(t, "without a plan", d.Sync("a"), api.OK)
	}
	d.Boot([]int{6, 6, 6})
	holds(t, d, "a=a2", "b=b2", "c=c2")
	d.Append("a", []byte("+"))
	d.Boot([]int{6, 6, 6})
	holds(t, d, "a=a2+", "b=b2", "c=c2")
	empty := made(t, 1)
	empty.Boot([]int{1, 2})
	holds(t, empty)
	var none *disk.Disk
	none.Boot([]int{1})
}

// P704: a file that was never synced is there behind Boot, empty or not.
func TestBootUnsafe(t *testing.T) {
	d := made(t, 10)
	d.Append("a", []byte("abc"))
	d.Append("b", []byte("def"))
	d.Boot([]int{2})
	holds(t, d, "a=ab", "b=")
}

// P704: Spoil's errors and their order; it adds bitwise, makes no step, and works on a disk that is down.
func TestSpoil(t *testing.T) {
	var none *disk.Disk
	is(t, "of nil", none.Spoil("a", 0, 1), api.ErrNil)
	d := made(t, 10)
	d.Append("a", []byte{0x0f, 0xf0, 0xff})
	d.Append("e", nil)
	d.Arm([]disk.Fault{{1, disk.IO}})
	for _, at := range []int{-1, 3, 4, math.MinInt, math.MaxInt} {
		is(t, fmt.Sprint("at ", at), d.Spoil("a", at, 1), api.ErrArg)
		is(t, fmt.Sprint("of no file, at ", at), d.Spoil("b", at, 1), api.ErrGone)
		is(t, fmt.Sprint("of no name, at ", at), d.Spoil("", at, 1), api.ErrGone)
	}
	is(t, "of an empty file", d.Spoil("e", 0, 1), api.ErrArg)
	is(t, "by", d.Spoil("a", 0, 0x3c), api.OK)
	is(t, "by", d.Spoil("a", 2, 0xff), api.OK)
	is(t, "by nothing", d.Spoil("a", 1, 0), api.OK)
	if d.Steps() != 2 {
		t.Errorf("Spoil makes steps: %d", d.Steps())
	}
	is(t, "the plan", d.Sync("a"), api.ErrIO)
	holds(t, d, "a=\x33\xf0\x00", "e=")
	is(t, "Sync", d.Sync("a"), api.OK)
	d.Arm([]disk.Fault{{1, disk.Crash}})
	is(t, "the crash", d.Sync("a"), api.ErrCrash)
	steps := d.Steps()
	is(t, "down", d.Spoil("a", 2, 0x41), api.OK)
	is(t, "down, no file", d.Spoil("b", 0, 1), api.ErrGone)
	is(t, "down, no place", d.Spoil("a", 3, 1), api.ErrArg)
	if !d.Down() || d.Steps() != steps {
		t.Errorf("Spoil of a disk that is down: %v, %d", d.Down(), d.Steps()-steps)
	}
	d.Boot(nil)
	holds(t, d, "a=\x33\xf0\x41", "e=")
	d.Spoil("a", 2, 0x41)
	holds(t, d, "a=\x33\xf0\x00", "e=")
}

// P704: Spoil makes nothing safe and nothing unsafe.
func TestSpoilSafe(t *testing.T) {
	d := made(t, 10)
	d.Append("a", []byte("ab"))
	d.Sync("a")
	d.Append("a", []byte("c"))
	d.Spoil("a", 0, 1)
	d.Spoil("a", 2, 1)
	is(t, "not all safe", d.Rename("a", "b"), api.ErrArg)
	d.Boot(nil)
	holds(t, d, "a=\x60b")
	d.Spoil("a", 1, 1)
	is(t, "all safe", d.Rename("a", "b"), api.OK)
}

// P705: what was synced is there behind any Boot, whatever is done to other files and to this one's end.
func TestSafe(t *testing.T) {
	r := rand.New(rand.NewPCG(7, 5))
	for range 200 {
		d := made(t, 400)
		all, safe := "", ""
		d.Append("it", nil)
		for range 100 {
			other := []string{"a", "j", "z"}[r.IntN(3)]
			if r.IntN(15) == 0 {
				d.Arm([]disk.Fault{{1 + r.IntN(4), 1 + r.IntN(3)}})
			}
			switch r.IntN(9) {
			case 0, 1:
				b := fmt.Append(nil, r.IntN(1000))
				if d.Append("it", b) == api.OK {
					all += string(b)
				}
			case 2:
				if d.Sync("it") == api.OK {
					safe = all
				}
			case 3:
				d.Append(other, make([]byte, r.IntN(9)))
			case 4:
				d.Sync(other)
			case 5:
				d.Truncate(other, r.IntN(9))
			case 6:
				d.Remove(other)
			case 7:
				d.Rename(other, []string{"a", "j", "z"}[r.IntN(3)])
			case 8:
				kept := make([]int, r.IntN(5))
				for i := range kept {
					kept[i] = r.IntN(400) - 10
				}
				d.Boot(kept)
				b, err := d.Read("it")
				if err != api.OK || !strings.HasPrefix(string(b), safe) || !strings.HasPrefix(all, string(b)) {
					t.Fatalf("behind Boot: %q, %v, not %q of %q", b, err, safe, all)
				}
				all, safe = string(b), string(b)
			}
		}
	}
}
