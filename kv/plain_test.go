package kv_test

import (
	"encoding/binary"
	"fmt"
	"math/rand/v2"
	"sort"
	"strings"
	"testing"

	"conclave/api"
	"conclave/disk"
	"conclave/kv"
	"conclave/wal"
)

// pairOf: a key and its value, where it is not gone.
type pairOf struct {
	key, val string
	gone     bool
}

// plainPairs: those of a batch's record, read from its beginning, and whether it is one.
func plainPairs(b string) ([]pairOf, bool) {
	if b == "" {
		return nil, true
	}
	take := func(n uint64) (string, bool) {
		if uint64(len(b)) < n {
			return "", false
		}
		part := b[:n]
		b = b[n:]
		return part, true
	}
	head, ok := take(2)
	if !ok {
		return nil, false
	}
	size := binary.BigEndian.Uint16([]byte(head))
	key, ok := take(uint64(size))
	if !ok || size == 0 || size > 64 {
		return nil, false
	}
	p := pairOf{key: key}
	head, ok = take(4)
	if !ok {
		return nil, false
	}
	if told := binary.BigEndian.Uint32([]byte(head)); told == 1<<32-1 {
		p.gone = true
	} else if p.val, ok = take(uint64(told)); !ok {
		return nil, false
	}
	rest, ok := plainPairs(b)
	return append([]pairOf{p}, rest...), ok
}

// plain: the chapter's words said over again: a store is the list of the log's records that count; it stands on a disk of its own.
type plain struct {
	log     *wal.Log
	records []string
	broken  bool
}

func plainOpen(d *disk.Disk, name string, most int) (*plain, api.Errno) {
	l, err := wal.Open(d, name, most)
	if err != api.OK {
		return nil, err
	}
	p := &plain{log: l}
	for n := l.First(); n < l.End(); n++ {
		b, _ := l.Get(n)
		if len(b) == 0 || b[0] != 0 && b[0] != 1 {
			return nil, api.ErrRot
		}
		pairs, ok := plainPairs(string(b[1:]))
		if !ok {
			return nil, api.ErrRot
		}
		for i, q := range pairs {
			if b[0] == 1 && (q.gone || i > 0 && strings.Compare(pairs[i-1].key, q.key) >= 0) {
				return nil, api.ErrRot
			}
		}
		if b[0] == 1 {
			p.records = nil
		}
		p.records = append(p.records, string(b[1:]))
	}
	return p, api.OK
}

// get: the last of all pairs with that key tells.
func (p *plain) get(key string) (string, bool) {
	val, ok := "", false
	for _, r := range p.records {
		pairs, _ := plainPairs(r)
		for _, q := range pairs {
			if q.key == key {
				val, ok = q.val, !q.gone
			}
		}
	}
	return val, ok
}

func (p *plain) all(from, to string) []pairOf {
	seen := map[string]int{}
	var out []pairOf
	for _, r := range p.records {
		pairs, _ := plainPairs(r)
		for _, q := range pairs {
			seen[q.key]++
		}
	}
	for key := range seen {
		if val, ok := p.get(key); ok && key >= from && (to == "" || key < to) {
			out = append(out, pairOf{key: key, val: val})
		}
	}
	sort.Slice(out, func(i, j int) bool { return out[i].key < out[j].key })
	return out
}

func (p *plain) save(b string) api.Errno {
	err := p.log.Append([]byte(b))
	if err == api.OK {
		err = p.log.Sync()
	}
	if err != api.OK {
		p.broken = true
	}
	return err
}

func (p *plain) put(l []kv.Change) api.Errno {
	if p.broken {
		return api.ErrHalt
	}
	for _, c := range l {
		if len(c.Key) == 0 || len(c.Key) > 64 {
			return api.ErrArg
		}
	}
	b := string(record(l...))
	if len(b)+1 > 65536 {
		return api.ErrBig
	}
	err := p.save("\x00" + b)
	if err == api.OK {
		p.records = append(p.records, b)
	}
	return err
}

func (p *plain) snap() api.Errno {
	if p.broken {
		return api.ErrHalt
	}
	b, n := "\x01", p.log.End()
	for _, q := range p.all("", "") {
		b += string(record(put(q.key, q.val)))
	}
	if len(b) > 65536 {
		return api.ErrBig
	}
	if err := p.save(b); err != api.OK {
		return err
	}
	p.records = []string{b[1:]}
	return p.log.Trim(n)
}

// both: the store and the chapter's words, each on its own disk, to which the same is done.
type both struct {
	r    *rand.Rand
	d, e *disk.Disk
	s    *kv.Store
	p    *plain
}

// disks: the same call of both disks.
func (x *both) disks(call func(d *disk.Disk) string) (string, string) {
	return call(x.d), call(x.e)
}

// key: one of a few, so that they meet again; now and then one that is none.
func (x *both) key() string {
	if x.r.IntN(60) == 0 {
		return strings.Repeat("k", x.r.IntN(2)*65)
	}
	return []string{"a", "b", "aa", "\x00", "\xff", "a\x00", "b\xff", strings.Repeat("k", 64)}[x.r.IntN(8)]
}

// batch: some changes.
func (x *both) batch() []kv.Change {
	var l []kv.Change
	for range x.r.IntN(4) {
		c := kv.Change{Key: []byte(x.key()), Gone: x.r.IntN(3) == 0, Val: make([]byte, x.r.IntN(6))}
		if x.r.IntN(40) == 0 {
			c.Val = make([]byte, 65536-80+x.r.IntN(80))
		}
		l = append(l, c)
	}
	return l
}

func (x *both) open() (string, string) {
	name, most := "db", 1+x.r.IntN(200)
	if x.r.IntN(20) == 0 {
		name = []string{"", "db.", "db0"}[x.r.IntN(3)]
	}
	s, err := kv.Open(x.d, name, most)
	p, wrong := plainOpen(x.e, name, most)
	x.s, x.p = s, p
	return fmt.Sprint("open ", int(err), " ", s == nil), fmt.Sprint("open ", int(wrong), " ", p == nil)
}

// foreign: a record that some log has, right or wrong.
func (x *both) foreign() []byte {
	b := []byte{byte(x.r.IntN(5) / 2)}
	last := ""
	for range x.r.IntN(4) {
		key := x.key()
		if b[0] == 1 && x.r.IntN(6) > 0 {
			key = last + "k"
		}
		last = key
		c := kv.Change{Key: []byte(key), Gone: x.r.IntN(1+8*int(b[0])) == 0}
		b = append(b, record(c)...)
	}
	return b[:len(b)-x.r.IntN(5)/4]
}

// meddle: what befalls the disk; the store is opened anew behind it.
func (x *both) meddle() (string, string) {
	x.s, x.p = nil, nil
	if x.r.IntN(3) == 0 {
		b := x.foreign()
		return x.disks(func(d *disk.Disk) string {
			l, err := wal.Open(d, "db", 100)
			if err == api.OK {
				err = l.Append(b)
			}
			return fmt.Sprint("foreign ", int(err))
		})
	}
	if x.r.IntN(9) == 0 {
		at, by := x.r.IntN(90), byte(1+x.r.IntN(255))
		names := append(x.e.List(), "db.0")
		name := names[x.r.IntN(len(names))]
		return x.disks(func(d *disk.Disk) string { return fmt.Sprint("spoil ", int(d.Spoil(name, at, by))) })
	}
	kept := make([]int, x.r.IntN(17))
	for i := range kept {
		kept[i] = x.r.IntN(300)
	}
	return x.disks(func(d *disk.Disk) string { d.Boot(kept); return "boot" })
}

// call: one drawn call of both.
func (x *both) call() (string, string) {
	switch x.r.IntN(14) {
	case 0:
		plan := []disk.Fault{{At: 1 + x.r.IntN(6), Kind: 1 + x.r.IntN(3)}, {At: 8 + x.r.IntN(9), Kind: 1 + x.r.IntN(2)}}
		return x.disks(func(d *disk.Disk) string { return fmt.Sprint("arm ", int(d.Arm(plan))) })
	case 1, 2:
		return fmt.Sprint("snap ", int(x.s.Snap())), fmt.Sprint("snap ", int(x.p.snap()))
	case 3, 4:
		key := x.key()
		val, ok := x.s.Get([]byte(key))
		want, there := x.p.get(key)
		return fmt.Sprintf("get %v %x", ok, val), fmt.Sprintf("get %v %x", there, want)
	case 5, 6:
		from, to := x.key(), x.key()
		if x.r.IntN(4) == 0 {
			to = ""
		}
		got, want := "", ""
		for _, c := range x.s.Range([]byte(from), []byte(to)) {
			got += fmt.Sprintf(" %x=%x %v", c.Key, c.Val, c.Gone)
		}
		for _, q := range x.p.all(from, to) {
			want += fmt.Sprintf(" %x=%x false", q.key, q.val)
		}
		return "range 0" + got, "range 0" + want
	case 7:
		if x.r.IntN(3) == 0 {
			return x.meddle()
		}
	case 8:
		return x.open()
	}
	l := x.batch()
	return fmt.Sprint("put ", int(x.s.Put(l))), fmt.Sprint("put ", int(x.p.put(l)))
}

// same: the looks of both stores and of both disks; now and then with the bytes of all files, which makes steps.
func (x *both) same() (string, string) {
	whole := x.r.IntN(10) == 0
	got, want := x.disks(func(d *disk.Disk) string {
		all := []string{fmt.Sprint(d.Steps(), d.Down(), d.List())}
		for _, name := range d.List() {
			if whole {
				b, err := d.Read(name)
				all = append(all, fmt.Sprint(name, int(err), string(b)))
			}
		}
		return strings.Join(all, ", ")
	})
	if x.p == nil {
		return got, want
	}
	return fmt.Sprint(got, x.s.Len()), fmt.Sprint(want, len(x.p.all("", "")))
}

// kind: a call and its error, without what else it answers.
func kind(s string) string {
	words := strings.Fields(s)
	return strings.Join(words[:min(2, len(words))], " ")
}

// P902 to P905: drawn calls answer what the chapter's words say, make the same steps, and leave the same files.
func TestDrawn(t *testing.T) {
	r := rand.New(rand.NewPCG(9, 5))
	met := map[string]int{}
	for range 400 {
		size := 200 + r.IntN(3000)
		if r.IntN(3) > 0 {
			size = 400000
		}
		x := &both{r: r}
		x.d, _ = disk.New(size)
		x.e, _ = disk.New(size)
		for step := range 120 {
			call := x.call
			if x.p == nil && (x.e.Down() || r.IntN(8) == 0) {
				call = x.meddle
			} else if x.p == nil || x.e.Down() || x.p.broken && r.IntN(3) == 0 {
				call = x.open
			}
			got, want := call()
			if got != want {
				t.Fatalf("call %d: %.99s, not %.99s", step, got, want)
			}
			met[kind(want)]++
			if a, b := x.same(); a != b {
				t.Fatalf("behind call %d (%.99s): %.300q, not %.300q", step, want, a, b)
			}
			if kind(want) == "open 34" && r.IntN(3) == 0 { // what is rotten stays so
				break
			}
		}
	}
	for _, want := range []string{"put 0", "put 1", "put 3", "put 30", "put 31", "put 32", "put 74", "snap 0", "snap 3", "snap 30", "snap 31", "snap 32", "snap 74", "get true", "get false", "range 0", "open 0", "open 1", "open 30", "open 31", "open 32", "open 34", "foreign 0", "boot"} {
		if met[want] < 5 {
			t.Errorf("too few draws met %q: %v", want, met)
		}
	}
}
