package signer_test

import (
	"bytes"
	"crypto/ed25519"
	"fmt"
	"strings"
	"testing"

	"conclave/api"
	"conclave/disk"
	"conclave/signer"
	"conclave/wal"
)

const (
	mostRound = 1<<31 - 1
	mostInt   = 1<<63 - 1
	leastInt  = -1 << 63
)

// is: an error as it should be.
func is(t *testing.T, what string, got, want api.Errno) {
	t.Helper()
	if got != want {
		t.Errorf("%s: %d, not %d", what, got, want)
	}
}

// room: an empty disk with more room than is needed.
func room(t *testing.T) *disk.Disk {
	t.Helper()
	d, err := disk.New(1 << 26)
	is(t, "New", err, api.OK)
	return d
}

// seed: one of several.
func seed(n int) []byte { return append(bytes.Repeat([]byte{byte(n)}, 31), 9) }

// library: the key of a seed, as the library has it.
func library(n int) ed25519.PrivateKey { return ed25519.NewKeyFromSeed(seed(n)) }

// keyOf: of a seed, by the library.
func keyOf(n int) api.Key { return api.Key(library(n).Public().(ed25519.PublicKey)) }

// sigOf: of a text by a seed, by the library.
func sigOf(n int, text string) api.Sig { return api.Sig(ed25519.Sign(library(n), []byte(text))) }

func mark(height uint64, round, step int) signer.Mark {
	return signer.Mark{Height: height, Round: round, Step: step}
}

// short: a text that may be long.
func short(s string) string {
	if len(s) > 40 {
		return fmt.Sprintf("%q and more, %d bytes", s[:40], len(s))
	}
	return fmt.Sprintf("%q", s)
}

// opened: a signer of seed 1 that can be.
func opened(t *testing.T, what string, d *disk.Disk) *signer.Signer {
	t.Helper()
	s, err := signer.Open(d, seed(1))
	if s == nil || err != api.OK {
		t.Fatalf("%s: Open: %v, %d", what, s != nil, err)
	}
	return s
}

// refused: a signer that can't be, with an error.
func refused(t *testing.T, what string, d *disk.Disk, seed []byte, want api.Errno) {
	t.Helper()
	if s, err := signer.Open(d, seed); s != nil || err != want {
		t.Errorf("%s: Open: %v, %d, not %d", what, s != nil, err, want)
	}
}

// signs: seed 1 signs a text as the library does.
func signs(t *testing.T, what string, s *signer.Signer, m signer.Mark, text, note string) {
	t.Helper()
	if sig, err := s.Sign(m, []byte(text), []byte(note)); err != api.OK || sig != sigOf(1, text) {
		t.Errorf("%s: Sign(%v, %s): %x, %d", what, m, short(text), sig[:4], err)
	}
}

// tells: nothing is signed, with an error.
func tells(t *testing.T, what string, s *signer.Signer, m signer.Mark, text, note string, want api.Errno) {
	t.Helper()
	if sig, err := s.Sign(m, []byte(text), []byte(note)); err != want || sig != (api.Sig{}) {
		t.Errorf("%s: Sign(%v, %s): %x, %d, not %d", what, m, short(text), sig[:4], err, want)
	}
}

// stands: the looks of a signer of seed 1.
func stands(t *testing.T, what string, s *signer.Signer, m signer.Mark, note string, halted bool) {
	t.Helper()
	last, got := s.Last()
	if last != m || string(got) != note || s.Halted() != halted || s.Key() != keyOf(1) {
		t.Errorf("%s: %v, %s, halted %v, key %x; not %v, %s, %v", what, last, short(string(got)), s.Halted(), s.Key(), m, short(note), halted)
	}
}

// steps: of the disk, in a call.
func steps(t *testing.T, what string, d *disk.Disk, want int, call func()) {
	t.Helper()
	before := d.Steps()
	call()
	if got := d.Steps() - before; got != want {
		t.Errorf("%s: %d steps, not %d", what, got, want)
	}
}

// has: the disk's files with their bytes, told as "name=records name=records"; it makes steps.
func has(t *testing.T, what string, d *disk.Disk, want map[string][]string) {
	t.Helper()
	if len(d.List()) != len(want) {
		t.Errorf("%s: files %v, not %d", what, d.List(), len(want))
	}
	for name, records := range want {
		b, err := d.Read(name)
		if err != api.OK || string(b) != framed(records...) {
			t.Errorf("%s: %s: %d, %d bytes, not the %d of %d records", what, name, err, len(b), len(framed(records...)), len(records))
		}
	}
}

// framed: records as they stand in a log's file.
func framed(records ...string) string {
	out := ""
	for _, r := range records {
		out += string(wal.Frame([]byte(r)))
	}
	return out
}

// written: a disk whose log sign has these records, all of them synced.
func written(t *testing.T, records ...string) *disk.Disk {
	t.Helper()
	d := room(t)
	l, err := wal.Open(d, "sign", 4096)
	is(t, "the log", err, api.OK)
	for _, r := range records {
		is(t, "Append", l.Append([]byte(r)), api.OK)
		is(t, "Sync", l.Sync(), api.OK)
	}
	return d
}

// bigEndian: a number's bytes, the highest first, without noughts ahead.
func bigEndian(n uint64) string {
	s := ""
	for ; n > 0; n >>= 8 {
		s = string([]byte{byte(n)}) + s
	}
	return s
}

// headed: bytes behind the head that chapter 6 gives them.
func headed(short, long byte, b string) string {
	if len(b) <= 55 {
		return string([]byte{short + byte(len(b))}) + b
	}
	n := bigEndian(uint64(len(b)))
	return string([]byte{long + byte(len(n))}) + n + b
}

// str: the encoding of bytes.
func str(b string) string {
	if len(b) == 1 && b[0] < 0x80 {
		return b
	}
	return headed(0x80, 0xb7, b)
}

// list: the encoding of a list, of its items' encodings.
func list(items ...string) string { return headed(0xc0, 0xf7, strings.Join(items, "")) }

// items: the encodings of what stands in a record.
func items(m signer.Mark, text string, sig api.Sig, note string) []string {
	return []string{str(bigEndian(m.Height)), str(bigEndian(uint64(m.Round))), str(bigEndian(uint64(m.Step))), str(text), str(string(sig[:])), str(note)}
}

// record: of a text that seed 1 signed.
func record(m signer.Mark, text, note string) string {
	return list(items(m, text, sigOf(1, text), note)...)
}

// The chapter's example.
func TestExample(t *testing.T) {
	s := opened(t, "the example", room(t))
	signs(t, "at first", s, mark(1, 0, 2), "a", "")
	signs(t, "again", s, mark(1, 0, 2), "a", "")
	tells(t, "b", s, mark(1, 0, 2), "b", "", api.ErrSigned)
	tells(t, "step 1", s, mark(1, 0, 1), "a", "", api.ErrSigned)
}

// The words: Less goes by Height, then Round, then Step, over all numbers.
func TestLess(t *testing.T) {
	rising := []signer.Mark{
		{}, mark(0, 0, 1), mark(0, 1, -5), mark(0, 1, 0),
		mark(1, leastInt, mostInt), mark(1, -1, 3), mark(1, 0, leastInt), mark(1, 0, -1), mark(1, 0, 0), mark(1, 0, 1), mark(1, 0, 2), mark(1, 0, 3), mark(1, 0, 4), mark(1, 0, mostInt),
		mark(1, 1, 1), mark(1, 1, 2), mark(1, 2, 1), mark(1, mostRound, 3), mark(1, mostRound+1, 1), mark(1, mostInt, 0),
		mark(2, 0, 1), mark(2, 1, 0), mark(256, 0, 0), mark(1<<63-1, 9, 9), mark(1<<63, 0, 0), mark(1<<64-1, 0, 0), mark(1<<64-1, 0, 1),
	}
	for i, a := range rising {
		for j, b := range rising {
			if signer.Less(a, b) != (i < j) {
				t.Errorf("Less(%v, %v): %v", a, b, i >= j)
			}
		}
	}
}

// P1601 to P1603: the looks of a new signer, behind each Sign, and behind Open.
func TestLooks(t *testing.T) {
	d := room(t)
	s := opened(t, "new", d)
	stands(t, "new", s, signer.Mark{}, "", false)
	for _, c := range []struct {
		m          signer.Mark
		text, note string
	}{
		{mark(1, 0, 1), "a", "note"},
		{mark(1, 0, 2), "a", ""},
		{mark(1, 1, 1), "", "b"},
		{mark(2, 0, 1), "", ""},
		{mark(1<<64-1, mostRound, 3), strings.Repeat("long", 100), strings.Repeat("note", 300)},
	} {
		what := fmt.Sprint("behind ", c.m)
		signs(t, what, s, c.m, c.text, c.note)
		stands(t, what, s, c.m, c.note, false)
		steps(t, what, d, 0, func() { stands(t, what, s, c.m, c.note, false) })
		stands(t, what+", opened again", opened(t, what, d), c.m, c.note, false)
		d.Boot(nil)
		s = opened(t, what, d)
		stands(t, what+", booted", s, c.m, c.note, false)
		signs(t, what+", booted", s, c.m, c.text, "another")
		stands(t, what+", again", s, c.m, c.note, false)
	}
}

// P1603: Key is that of the seed, whatever the disk holds for others.
func TestKey(t *testing.T) {
	for n := range 20 {
		s, err := signer.Open(room(t), seed(n))
		if err != api.OK || s.Key() != keyOf(n) {
			t.Errorf("seed %d: %d", n, err)
		}
	}
}

// P1602, P1603: the calls of nil, whatever they are given.
func TestNil(t *testing.T) {
	var s *signer.Signer
	for _, m := range []signer.Mark{{}, mark(1, 0, 1), mark(1, -1, 9)} {
		for _, text := range []string{"", "a", strings.Repeat("a", 70000)} {
			tells(t, "of nil", s, m, text, text, api.ErrNil)
		}
	}
	last, note := s.Last()
	if last != (signer.Mark{}) || len(note) != 0 || s.Key() != (api.Key{}) || s.Halted() {
		t.Errorf("of nil: %v, %q, %x, %v", last, note, s.Key(), s.Halted())
	}
}
