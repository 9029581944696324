package disk_test

import (
	"fmt"
	"math"
	"strings"
	"testing"

	"conclave/api"
	"conclave/disk"
)

// P702: the errors that all calls have, in their order: nil, down, the name, the fault, and what is kept.
func TestFirstErrors(t *testing.T) {
	for what, call := range calls() {
		is(t, what+" of nil", call(nil, ""), api.ErrNil)
		is(t, what+" of nil, with a name", call(nil, "a"), api.ErrNil)
		d := made(t, 3)
		is(t, "Append", d.Append("a", []byte("abc")), api.OK)
		is(t, "Sync", d.Sync("a"), api.OK)
		for _, name := range []string{"", " ", "\x7f", "a\x00", "\u00e4", strings.Repeat("x", 33)} {
			d.Arm([]disk.Fault{{1, disk.Crash}})
			is(t, fmt.Sprintf("%s of %q", what, name), call(d, name), api.ErrArg)
		}
		for _, name := range []string{"a", "gone", strings.Repeat("x", 32), "!", "~"} {
			for kind, want := range []api.Errno{disk.IO: api.ErrIO, disk.Full: api.ErrFull, disk.Crash: api.ErrCrash} {
				if kind == 0 {
					continue
				}
				steps := d.Steps()
				d.Arm([]disk.Fault{{1, kind}})
				is(t, fmt.Sprintf("%s of %q, fault %d", what, name, kind), call(d, name), want)
				if d.Steps() != steps+1 || d.Down() != (kind == disk.Crash) {
					t.Errorf("%s, fault %d: %d steps, down %v", what, kind, d.Steps()-steps, d.Down())
				}
				if d.Down() {
					is(t, what+" of a disk that is down", call(d, name), api.ErrCrash)
					is(t, what+" of a disk that is down, of no name", call(d, ""), api.ErrCrash)
					if d.Steps() != steps+1 {
						t.Errorf("%s of a disk that is down is counted", what)
					}
					d.Boot(nil)
				}
				holds(t, d, "a=abc")
			}
		}
		if what != "Append" {
			is(t, what+" of a file that is not there", call(d, "gone"), api.ErrGone)
			is(t, what+" of a file that was there", d.Remove("a"), api.OK)
			is(t, what+" of a file that was removed", call(d, "a"), api.ErrGone)
			holds(t, d)
		}
	}
}

// P702: what a fault met was not done: nothing is safe of it either.
func TestMetNotDone(t *testing.T) {
	for _, kind := range []int{disk.IO, disk.Full, disk.Crash} {
		d := made(t, 10)
		d.Append("a", []byte("ab"))
		d.Arm([]disk.Fault{{1, kind}})
		d.Sync("a")
		d.Boot(nil)
		holds(t, d, "a=")
		d.Append("a", []byte("ab"))
		d.Arm([]disk.Fault{{1, kind}})
		d.Truncate("a", 1)
		d.Boot([]int{9})
		holds(t, d, "a=ab")
		d.Arm([]disk.Fault{{1, kind}})
		d.Append("b", nil)
		d.Boot(nil)
		holds(t, d, "a=ab")
	}
}

// P702: Append to the last byte of the room and one more, over all files together.
func TestAppendRoom(t *testing.T) {
	d := made(t, 10)
	is(t, "Append", d.Append("a", []byte("abcd")), api.OK)
	is(t, "Append", d.Append("b", []byte("efg")), api.OK)
	is(t, "one too many", d.Append("a", []byte("hijk")), api.ErrFull)
	is(t, "one too many, a new file", d.Append("c", []byte("hijk")), api.ErrFull)
	holds(t, d, "a=abcd", "b=efg")
	is(t, "the last byte", d.Append("a", []byte("hij")), api.OK)
	is(t, "beyond it", d.Append("b", []byte("k")), api.ErrFull)
	is(t, "nothing", d.Append("b", nil), api.OK)
	is(t, "nothing, a new file", d.Append("c", []byte{}), api.OK)
	holds(t, d, "a=abcdhij", "b=efg", "c=")
	is(t, "Truncate", d.Truncate("a", 5), api.OK)
	is(t, "too many for what is free", d.Append("c", []byte("klm")), api.ErrFull)
	is(t, "what is free", d.Append("c", []byte("kl")), api.OK)
	is(t, "Remove", d.Remove("b"), api.OK)
	is(t, "what it had", d.Append("d", []byte("mno")), api.OK)
	is(t, "full again", d.Append("d", []byte("p")), api.ErrFull)
	holds(t, d, "a=abcdh", "c=kl", "d=mno")
	is(t, "Sync", d.Sync("a"), api.OK)
	is(t, "Rename over a file", d.Rename("a", "c"), api.OK)
	is(t, "room of what was there", d.Append("c", []byte("xy")), api.OK)
	is(t, "and no more", d.Append("c", []byte("z")), api.ErrFull)
	holds(t, d, "c=abcdhxy", "d=mno")
	d.Boot([]int{0, 1})
	is(t, "room behind Boot", d.Append("d", []byte("1234")), api.OK)
	is(t, "and no more behind it", d.Append("d", []byte("5")), api.ErrFull)
	holds(t, d, "c=abcdh", "d=m1234")
}

// P702: MaxFiles files and one more; too many comes ahead of too full.
func TestAppendFiles(t *testing.T) {
	d := made(t, api.MaxFiles)
	for i := range api.MaxFiles {
		is(t, "Append", d.Append(fmt.Sprint("f", i), []byte("x")), api.OK)
	}
	is(t, "one more", d.Append("g", nil), api.ErrBig)
	is(t, "one more, and too much", d.Append("g", []byte("y")), api.ErrBig)
	is(t, "one that is there", d.Append("f3", nil), api.OK)
	is(t, "one that is there, and too much", d.Append("f3", []byte("y")), api.ErrFull)
	if len(d.List()) != api.MaxFiles {
		t.Errorf("List: %q", d.List())
	}
	is(t, "Remove", d.Remove("f3"), api.OK)
	is(t, "in its place", d.Append("g", nil), api.OK)
	is(t, "one more again", d.Append("f3", nil), api.ErrBig)
	is(t, "Sync", d.Sync("f1"), api.OK)
	is(t, "Rename", d.Rename("f1", "f2"), api.OK)
	is(t, "behind a Rename that took one", d.Append("f3", nil), api.OK)
	is(t, "and no more", d.Append("f1", nil), api.ErrBig)
	is(t, "Rename to a new name", d.Rename("f3", "h"), api.OK)
	is(t, "as many as before", d.Append("f1", nil), api.ErrBig)
}

// P702: Append's bytes stand behind the file's own; all values of bytes last.
func TestAppendBytes(t *testing.T) {
	d := made(t, 1000)
	want := ""
	for i := range 256 {
		is(t, "Append", d.Append("a", []byte{byte(i), byte(255 - i)}), api.OK)
		want += string([]byte{byte(i), byte(255 - i)})
	}
	if b, err := d.Read("a"); string(b) != want || err != api.OK {
		t.Errorf("Read: %x, %v", b, err)
	}
}

// P702: Truncate to -1, 0, the file's length and one more; what is left is safe.
func TestTruncate(t *testing.T) {
	d := made(t, 10)
	d.Append("a", []byte("abcd"))
	for _, n := range []int{-1, 5, math.MinInt, math.MaxInt} {
		is(t, fmt.Sprint("Truncate to ", n), d.Truncate("a", n), api.ErrArg)
		is(t, fmt.Sprint("Truncate of no file to ", n), d.Truncate("b", n), api.ErrGone)
	}
	is(t, "not safe by what is refused", d.Rename("a", "b"), api.ErrArg)
	is(t, "Truncate to its length", d.Truncate("a", 4), api.OK)
	is(t, "safe", d.Rename("a", "a"), api.OK)
	d.Append("a", []byte("ef"))
	is(t, "Truncate", d.Truncate("a", 3), api.OK)
	d.Boot(nil)
	holds(t, d, "a=abc")
	d.Append("a", []byte("xyz"))
	holds(t, d, "a=abcxyz")
	d.Boot(nil)
	holds(t, d, "a=abc")
	is(t, "Truncate to 0", d.Truncate("a", 0), api.OK)
	is(t, "Truncate of an empty file to 0", d.Truncate("a", 0), api.OK)
	is(t, "Truncate of an empty file to 1", d.Truncate("a", 1), api.ErrArg)
	holds(t, d, "a=")
}

// P702: Rename of what is not all safe, to itself, to a name that another file has, and to no name.
func TestRename(t *testing.T) {
	d := made(t, 20)
	d.Append("a", []byte("new"))
	d.Append("b", []byte("old"))
	is(t, "not safe", d.Rename("a", "c"), api.ErrArg)
	is(t, "not safe, to itself", d.Rename("a", "a"), api.ErrArg)
	is(t, "gone, to itself", d.Rename("c", "c"), api.ErrGone)
	is(t, "gone, over one that is there", d.Rename("c", "a"), api.ErrGone)
	d.Sync("a")
	d.Append("a", []byte("+"))
	is(t, "all but one byte safe", d.Rename("a", "b"), api.ErrArg)
	holds(t, d, "a=new+", "b=old")
	d.Sync("a")
	is(t, "to itself", d.Rename("a", "a"), api.OK)
	holds(t, d, "a=new+", "b=old")
	steps := d.Steps()
	for _, name := range []string{"", "a b", strings.Repeat("x", 33)} {
		d.Arm([]disk.Fault{{1, disk.Crash}})
		is(t, "to no name", d.Rename("a", name), api.ErrArg)
		is(t, "of a file that is not there, to no name", d.Rename("gone", name), api.ErrArg)
		is(t, "of no name, to no name", d.Rename(name, name), api.ErrArg)
		is(t, "of no name", d.Rename(name, "a"), api.ErrArg)
	}
	d.Arm(nil)
	if d.Steps() != steps {
		t.Errorf("Rename to no name is counted")
	}
	is(t, "to another's name", d.Rename("a", "b"), api.OK)
	holds(t, d, "b=new+")
	is(t, "what was renamed", d.Sync("a"), api.ErrGone)
	d.Boot(nil)
	holds(t, d, "b=new+")
	d.Append("e", nil)
	is(t, "an empty file", d.Rename("e", strings.Repeat("~", 32)), api.OK)
	holds(t, d, "b=new+", strings.Repeat("~", 32)+"=")
	is(t, "Append behind it", d.Append("b", []byte("1")), api.OK)
	d.Boot(nil)
	holds(t, d, "b=new+", strings.Repeat("~", 32)+"=")
}

// P702: a file that was removed begins empty again, and nothing of it is safe.
func TestRemove(t *testing.T) {
	d := made(t, 10)
	d.Append("a", []byte("abc"))
	d.Sync("a")
	is(t, "Remove", d.Remove("a"), api.OK)
	is(t, "Remove again", d.Remove("a"), api.ErrGone)
	is(t, "Sync", d.Sync("a"), api.ErrGone)
	d.Boot([]int{9})
	holds(t, d)
	is(t, "Append", d.Append("a", []byte("xyz")), api.OK)
	holds(t, d, "a=xyz")
	d.Boot(nil)
	holds(t, d, "a=")
}

// P702: Read and Sync again and again; a file that is empty is there.
func TestReadSync(t *testing.T) {
	d := made(t, 10)
	d.Append("a", nil)
	if b, err := d.Read("a"); len(b) != 0 || err != api.OK {
		t.Errorf("Read of an empty file: %x, %v", b, err)
	}
	is(t, "Sync of an empty file", d.Sync("a"), api.OK)
	is(t, "Sync again", d.Sync("a"), api.OK)
	d.Append("a", []byte("x"))
	d.Append("b", []byte("y"))
	is(t, "Sync of one", d.Sync("a"), api.OK)
	d.Boot(nil)
	holds(t, d, "a=x", "b=")
	if d.Steps() != 9 {
		t.Errorf("Steps: %d", d.Steps())
	}
}
