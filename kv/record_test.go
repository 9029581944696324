package kv_test

import (
	"bytes"
	"encoding/binary"
	"encoding/hex"
	"fmt"
	"math/rand/v2"
	"strings"
	"testing"

	"conclave/api"
	"conclave/kv"
)

// P901: the chapter's example.
func TestExample(t *testing.T) {
	b, err := kv.Batch([]kv.Change{put("\x61", "\x62\x63")})
	if hex.EncodeToString(b) != "00016100000002"+"6263" || err != api.OK {
		t.Errorf("%x, %d", b, err)
	}
	l, err := kv.Unbatch(b)
	if told(l) != "a=bc" || err != api.OK {
		t.Errorf("%v, %d", l, err)
	}
}

// P901: records by hand: of nothing, of an empty value, of a key that is gone (its value is passed over), of several, of one key twice.
func TestBatch(t *testing.T) {
	for _, c := range []struct {
		l    []kv.Change
		want string
	}{
		{nil, ""},
		{[]kv.Change{}, ""},
		{list("a="), "00016100000000"},
		{[]kv.Change{{Key: []byte("a")}}, "00016100000000"},
		{list("-a"), "000161ffffffff"},
		{[]kv.Change{{Key: []byte("a"), Val: []byte("xyz"), Gone: true}}, "000161ffffffff"},
		{[]kv.Change{{Key: []byte("a"), Val: make([]byte, 1<<20), Gone: true}}, "000161ffffffff"},
		{list("b=1 -ab a=22"), "00016200000001" + "31" + "00026162ffffffff" + "00016100000002" + "3232"},
		{list("a=1 a=2 -a"), "0001610000000131" + "0001610000000132" + "000161ffffffff"},
		{[]kv.Change{put("\x00", "\xff")}, "00010000000001ff"},
		{[]kv.Change{put("k", strings.Repeat("v", 0x1234))}, "00016b00001234" + strings.Repeat("76", 0x1234)},
	} {
		b, err := kv.Batch(c.l)
		if hex.EncodeToString(b) != c.want || err != api.OK {
			t.Errorf("Batch of %.99v: %.99x, %d", c.l, b, err)
		}
		for i := range c.l {
			if c.l[i].Gone {
				c.l[i].Val = nil
			}
		}
		if l, err := kv.Unbatch(b); told(l) != told(c.l) || err != api.OK {
			t.Errorf("Unbatch of %.99x: %.99v, %d", b, l, err)
		}
	}
}

// P901: keys of 0, 1, MaxKey and MaxKey + 1 bytes, wherever they stand, gone or not.
func TestBatchKeys(t *testing.T) {
	for size, want := range map[int]api.Errno{0: api.ErrArg, 1: api.OK, 2: api.OK, api.MaxKey - 1: api.OK, api.MaxKey: api.OK, api.MaxKey + 1: api.ErrArg, 256: api.ErrArg, 257: api.ErrArg, 65537: api.ErrArg, 65536: api.ErrArg} {
		for _, isGone := range []bool{false, true} {
			c := kv.Change{Key: bytes.Repeat([]byte{'k'}, size), Gone: isGone}
			for at := range 3 {
				l := list("a=1 b=2 -c")
				l[at] = c
				b, err := kv.Batch(l)
				is(t, fmt.Sprint("a key of ", size, " bytes"), err, want)
				if want == api.OK && !bytes.Equal(b, record(l...)) {
					t.Errorf("%x", b)
				}
				if want != api.OK && len(b) != 0 {
					t.Errorf("with an error: %x", b)
				}
			}
		}
	}
	_, err := kv.Batch([]kv.Change{{Key: nil, Val: []byte("v")}})
	is(t, "a key that is nil", err, api.ErrArg)
}

// P901: a record that has with the log's first byte MaxRecord bytes, and one more; by one change and by several, by the value, the key and the head.
func TestBatchSizes(t *testing.T) {
	full := func(size int) kv.Change { return put("k", strings.Repeat("v", size-7)) }
	for _, c := range []struct {
		l    []kv.Change
		want api.Errno
	}{
		{[]kv.Change{full(65534)}, api.OK},
		{[]kv.Change{full(65535)}, api.OK},
		{[]kv.Change{full(65536)}, api.ErrBig},
		{[]kv.Change{full(65537)}, api.ErrBig},
		{[]kv.Change{full(1 << 24)}, api.ErrBig},
		{[]kv.Change{full(65528), gone("a")}, api.OK},
		{[]kv.Change{full(65529), gone("a")}, api.ErrBig},
		{[]kv.Change{gone("a"), full(65528)}, api.OK},
		{[]kv.Change{gone("a"), full(65529)}, api.ErrBig},
		{[]kv.Change{full(65528), gone("ab")}, api.ErrBig},
		{[]kv.Change{full(65528), put("a", "1")}, api.ErrBig},
		{[]kv.Change{full(65527), put("a", "1")}, api.OK},
		{[]kv.Change{full(65534), put("a", "")}, api.ErrBig},
		{[]kv.Change{full(65535), gone("a")}, api.ErrBig},
		{[]kv.Change{full(65536), gone("a")}, api.ErrBig},
		{[]kv.Change{full(30000), full(30000), full(5535)}, api.OK},
		{[]kv.Change{full(30000), full(30000), full(5536)}, api.ErrBig},
		{[]kv.Change{full(30000), full(30000), full(30000), full(30000)}, api.ErrBig},
	} {
		b, err := kv.Batch(c.l)
		want := record(c.l...)
		is(t, fmt.Sprint("a record of ", len(want), " bytes"), err, c.want)
		if c.want != api.OK {
			want = nil
		}
		if !bytes.Equal(b, want) {
			t.Errorf("%d changes: other bytes", len(c.l))
		}
	}
}

// Rule 6: values together far beyond what a sum of lengths could be trusted with.
func TestBatchHuge(t *testing.T) {
	val := make([]byte, 1<<24)
	var l []kv.Change
	for range 1 << 10 {
		l = append(l, kv.Change{Key: []byte("k"), Val: val})
	}
	b, err := kv.Batch(l)
	is(t, "many values", err, api.ErrBig)
	if len(b) != 0 {
		t.Errorf("with an error: %d bytes", len(b))
	}
}

// P901: a key that is none comes first, wherever it stands.
func TestBatchOrder(t *testing.T) {
	big := put("k", strings.Repeat("v", api.MaxRecord))
	for _, l := range [][]kv.Change{
		{put("", ""), big}, {big, put("", "")}, {big, big, gone(strings.Repeat("k", 65))}, {put("", strings.Repeat("v", api.MaxRecord))},
	} {
		b, err := kv.Batch(l)
		is(t, "both wrong", err, api.ErrArg)
		if len(b) != 0 {
			t.Errorf("with an error: %d bytes", len(b))
		}
	}
}

// P901: a record that is cut at each place is none, but where a change ends.
func TestUnbatchCut(t *testing.T) {
	l := list("a=bc -de f= ghi=0123456789")
	l = append(l, put(strings.Repeat("k", api.MaxKey), "v"))
	ends := map[int]int{}
	for i := range len(l) + 1 {
		ends[len(record(l[:i]...))] = i + 1
	}
	whole := record(l...)
	for at := range len(whole) + 1 {
		got, err := kv.Unbatch(whole[:at])
		if i := ends[at]; i > 0 {
			if told(got) != told(l[:i-1]) || err != api.OK {
				t.Errorf("cut at %d: %v, %d", at, got, err)
			}
		} else if len(got) != 0 || err != api.ErrRot {
			t.Errorf("cut at %d: %v, %d", at, got, err)
		}
	}
}

// P901: bytes that are no batch's record.
func TestUnbatchWrong(t *testing.T) {
	a := record(list("a=1")...)
	key := func(n int) []byte {
		b := binary.BigEndian.AppendUint16(nil, uint16(n))
		return append(append(b, make([]byte, n)...), 0, 0, 0, 0)
	}
	val := func(n uint32, has int) []byte {
		b := binary.BigEndian.AppendUint32([]byte{0, 1, 'k'}, n)
		return append(b, make([]byte, has)...)
	}
	for what, b := range map[string][]byte{
		"a nought":                {0},
		"a key of 0 bytes":        key(0),
		"a key of 65 bytes":       key(65),
		"a key of 256 bytes":      key(256),
		"a key of 257 bytes":      key(257),
		"a key of 65535 bytes":    key(65535),
		"a length beyond":         val(5, 4),
		"a length beyond by far":  val(1<<31, 9),
		"the greatest length":     val(1<<32-2, 9),
		"one with 2^31 - 1":       val(1<<31-1, 0),
		"a value behind a gone":   val(1<<32-1, 1),
		"one byte behind":         val(3, 4),
		"noughts":                 make([]byte, 100),
		"all ones":                bytes.Repeat([]byte{255}, 100),
		"the log's byte":          append([]byte{0}, a...),
		"the log's byte snapshot": append([]byte{1}, a...),
	} {
		for _, ahead := range [][]byte{nil, a, record(list("-b c=")...)} {
			if l, err := kv.Unbatch(append(bytes.Clone(ahead), b...)); len(l) != 0 || err != api.ErrRot {
				t.Errorf("%s: %.99v, %d", what, l, err)
			}
		}
	}
	if l, err := kv.Unbatch(key(64)); len(l) != 1 || len(l[0].Key) != 64 || err != api.OK {
		t.Errorf("a key of 64 bytes: %v, %d", l, err)
	}
}

// P901: the word of a batch's record has no greatest size: that one is Batch's.
func TestUnbatchLong(t *testing.T) {
	b := record(put("k", strings.Repeat("v", api.MaxRecord)), gone("l"))
	l, err := kv.Unbatch(b)
	if err != api.OK || len(l) != 2 || !bytes.Equal(record(l...), b) {
		t.Errorf("%d changes, %d", len(l), err)
	}
}

// P901: drawn bytes, most of them near a record: what Unbatch takes, Batch gives back.
func TestUnbatchDrawn(t *testing.T) {
	r := rand.New(rand.NewPCG(9, 1))
	right, wrong := 0, 0
	for range 40000 {
		var b []byte
		for range r.IntN(4) {
			c := kv.Change{Key: make([]byte, 1+r.IntN(3)), Gone: r.IntN(3) == 0}
			if !c.Gone {
				c.Val = make([]byte, r.IntN(4))
			}
			b = append(b, record(c)...)
		}
		for range r.IntN(3) {
			if len(b) > 0 {
				b[r.IntN(len(b))] = []byte{0, 1, 2, 255}[r.IntN(4)]
			}
		}
		b = b[:len(b)-min(len(b), r.IntN(3)/2)]
		l, err := kv.Unbatch(b)
		if err != api.OK {
			wrong++
			if err != api.ErrRot || len(l) != 0 {
				t.Fatalf("%x: %v, %d", b, l, err)
			}
			continue
		}
		right++
		again, err := kv.Batch(l)
		if !bytes.Equal(again, b) || err != api.OK {
			t.Fatalf("%x came back as %x, %d", b, again, err)
		}
		if !bytes.Equal(record(l...), b) {
			t.Fatalf("%x: %v", b, l)
		}
	}
	if right < 1000 || wrong < 1000 {
		t.Errorf("%d right, %d wrong", right, wrong)
	}
}
