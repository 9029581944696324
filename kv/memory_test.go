package kv_test

import (
	"bytes"
	"testing"

	"conclave/api"
	"conclave/kv"
)

// overwrite: all bytes of a list, its spare room too.
func overwrite(b []byte) {
	b = b[:cap(b)]
	for i := range b {
		b[i] = '-'
	}
}

// overwriteAll: changes, with their keys and values, and the room behind them.
func overwriteAll(l []kv.Change) {
	for _, c := range l {
		overwrite(c.Key)
		overwrite(c.Val)
	}
	l = l[:cap(l)]
	for i := range l {
		l[i] = kv.Change{Key: []byte("spoilt"), Gone: true}
	}
}

// Rule 4: what comes in is neither changed nor kept, its spare room neither.
func TestHandedIn(t *testing.T) {
	d := room(t)
	s := opened(t, d, "db", 30)
	held := []byte("abcdefghij")
	l := []kv.Change{{Key: held[0:2], Val: held[2:4]}, {Key: held[4:5], Val: held[5:5]}, {Key: held[6:7], Val: held[7:9], Gone: true}, {Key: held[9:10]}}
	is(t, "Put", s.Put(l[:3]), api.OK)
	kv.Batch(l[:3])
	s.Get(held[:1])
	s.Range(held[:1], held[4:5])
	if string(held) != "abcdefghij" || len(l[2].Val) != 2 || !l[2].Gone || string(l[3].Key) != "j" {
		t.Errorf("changed: %q, %v", held, l)
	}
	overwrite(held)
	overwriteAll(l)
	has(t, "the store", s, "ab=cd e=")
	has(t, "opened again", opened(t, d, "db", 30), "ab=cd e=")
	is(t, "Snap", s.Snap(), api.OK)
	has(t, "behind Snap", opened(t, d, "db", 30), "ab=cd e=")
	b := append(record(list("a=1 -b c=")...), "spare"...)
	whole := bytes.Clone(b)
	got, err := kv.Unbatch(b[:len(b)-5])
	is(t, "Unbatch", err, api.OK)
	kv.Unbatch(b)
	if !bytes.Equal(b, whole) {
		t.Errorf("changed: %x", b)
	}
	overwrite(b)
	if told(got) != "a=1 -b c=" {
		t.Errorf("Unbatch shares memory with what it was given: %s", told(got))
	}
}

// Rule 4: what is handed out is new memory, each list in it, spare room too.
func TestHandedOut(t *testing.T) {
	d := room(t)
	s := opened(t, d, "db", 30)
	puts(t, s, "a=1 b=22 c=", "d=4444")
	for _, s := range []*kv.Store{s, opened(t, d, "db", 30)} {
		for _, key := range []string{"a", "b", "c", "d"} {
			val, _ := s.Get([]byte(key))
			other, _ := s.Get([]byte(key))
			want := string(other)
			overwrite(val)
			_ = append(val, "++++"...)
			if string(other) != want {
				t.Errorf("two answers share memory: %q", other)
			}
		}
		has(t, "behind Get", s, "a=1 b=22 c= d=4444")
		all, other := s.Range(nil, nil), s.Range(nil, nil)
		overwriteAll(all)
		if told(other) != "a=1 b=22 c= d=4444" {
			t.Errorf("two answers share memory: %s", told(other))
		}
		has(t, "behind Range", s, "a=1 b=22 c= d=4444")
	}
	kept, _ := s.Get([]byte("d"))
	all := s.Range(nil, nil)
	puts(t, s, "d=5555 -a -b", "c=66 e=7")
	is(t, "Snap", s.Snap(), api.OK)
	if string(kept) != "4444" || told(all) != "a=1 b=22 c= d=4444" {
		t.Errorf("an answer is written later on: %q, %s", kept, told(all))
	}
}

// Rule 4: no two lists of one answer share memory.
func TestHandedOutApart(t *testing.T) {
	s := opened(t, room(t), "db", 30)
	puts(t, s, "a=1 b=22 c= d=4444")
	unbatched := func() []kv.Change {
		l, _ := kv.Unbatch(record(list("a=1 b=22 c= d=4444")...))
		return l
	}
	ranged := func() []kv.Change { return s.Range(nil, nil) }
	for _, make := range []func() []kv.Change{unbatched, ranged} {
		for i := range 8 {
			l := make()
			want := list("a=1 b=22 c= d=4444")
			if i%2 == 0 {
				overwrite(l[i/2].Key)
				l[i/2].Key = want[i/2].Key
			} else {
				overwrite(l[i/2].Val)
				l[i/2].Val = want[i/2].Val
			}
			if told(l) != told(want) {
				t.Errorf("list %d is shared: %s", i, told(l))
			}
		}
	}
	l := list("a=1 b=2")
	b, _ := kv.Batch(l)
	c, _ := kv.Batch(l)
	overwrite(b)
	if !bytes.Equal(c, record(l...)) || told(l) != "a=1 b=2" {
		t.Errorf("Batch shares memory: %x, %s", c, told(l))
	}
}

// Rule 5: stores of two names on one disk, and of one name on two disks, share nothing.
func TestApart(t *testing.T) {
	d, e := room(t), room(t)
	a, b, c := opened(t, d, "db", 20), opened(t, d, "db2", 20), opened(t, e, "db", 20)
	puts(t, a, "k=a x=1", "y=2")
	puts(t, b, "k=b", "-x")
	puts(t, c, "k=c", "-k z=3")
	is(t, "Snap", b.Snap(), api.OK)
	puts(t, a, "-y")
	has(t, "the first", a, "k=a x=1")
	has(t, "the second", b, "k=b")
	has(t, "the other disk", c, "z=3")
	d.Boot(nil)
	e.Boot(nil)
	has(t, "the first, booted", opened(t, d, "db", 20), "k=a x=1")
	has(t, "the second, booted", opened(t, d, "db2", 20), "k=b")
	has(t, "the other disk, booted", opened(t, e, "db", 20), "z=3")
}
