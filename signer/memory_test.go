package signer_test

import (
	"testing"

	"conclave/api"
	"conclave/signer"
)

// overwrite: all bytes of a list, its spare room too.
func overwrite(b []byte) {
	b = b[:cap(b)]
	for i := range b {
		b[i] = '-'
	}
}

// Rule 4: what is handed in is neither changed nor kept, its spare room neither.
func TestHandedIn(t *testing.T) {
	d := room(t)
	seedBytes := append(seed(1), "spare"...)
	s, err := signer.Open(d, seedBytes[:32])
	is(t, "Open", err, api.OK)
	if string(seedBytes) != string(seed(1))+"spare" {
		t.Errorf("the seed was changed: %x", seedBytes)
	}
	overwrite(seedBytes)
	text, note := []byte("abcdefgh"), []byte("ijklmnop")
	for n := range 4 {
		sig, err := s.Sign(mark(1, n, 1), text[:n], note[:n+1])
		if err != api.OK || sig != sigOf(1, "abcdefgh"[:n]) {
			t.Errorf("Sign: %d", err)
		}
		s.Sign(mark(1, n, 1), text[:n], note[:n])
		s.Sign(mark(1, n, 1), text[:n+1], note[:n])
		if string(text) != "abcdefgh" || string(note) != "ijklmnop" {
			t.Errorf("changed: %q, %q", text, note)
		}
	}
	overwrite(text)
	overwrite(note)
	stands(t, "overwritten", s, mark(1, 3, 1), "ijkl", false)
	tells(t, "overwritten", s, mark(1, 3, 1), "---", "", api.ErrSigned)
	signs(t, "overwritten", s, mark(1, 3, 1), "abc", "")
	signs(t, "by the seed that was handed in", s, mark(1, 4, 1), "more", "n")
	stands(t, "opened again", opened(t, "opened again", d), mark(1, 4, 1), "n", false)
}

// Rule 4: what is handed out is new memory, spare room too.
func TestHandedOut(t *testing.T) {
	d := room(t)
	s := opened(t, "new", d)
	_, none := s.Last()
	_ = append(none, "++++"...)
	signs(t, "Sign", s, mark(1, 0, 1), "text", "note")
	for _, s := range []*signer.Signer{s, opened(t, "opened again", d)} {
		_, first := s.Last()
		_, second := s.Last()
		overwrite(first)
		_ = append(first, "++++"...)
		if string(second) != "note" {
			t.Errorf("two answers share memory: %q", second)
		}
		stands(t, "overwritten", s, mark(1, 0, 1), "note", false)
		signs(t, "overwritten", s, mark(1, 0, 1), "text", "")
	}
	_, kept := s.Last()
	signs(t, "Sign", s, mark(1, 0, 2), "next", "other")
	if string(kept) != "note" {
		t.Errorf("an answer is written later on: %q", kept)
	}
}

// Rule 5: signers on two disks share nothing, nor does one with the logs of others on its disk.
func TestApart(t *testing.T) {
	d, e := room(t), room(t)
	a, b := opened(t, "a", d), opened(t, "b", e)
	c, err := signer.Open(room(t), seed(2))
	is(t, "c", err, api.OK)
	signs(t, "a", a, mark(5, 0, 1), "a", "note a")
	signs(t, "b", b, mark(1, 0, 1), "b", "note b")
	if sig, err := c.Sign(mark(1, 0, 1), []byte("c"), nil); err != api.OK || sig != sigOf(2, "c") || c.Key() != keyOf(2) {
		t.Errorf("c: %d", err)
	}
	stands(t, "a", a, mark(5, 0, 1), "note a", false)
	stands(t, "b", b, mark(1, 0, 1), "note b", false)
	is(t, "the log of another", e.Append("sign2.0", []byte("junk")), api.OK)
	stands(t, "a, opened again", opened(t, "a", d), mark(5, 0, 1), "note a", false)
	stands(t, "b, opened again", opened(t, "b", e), mark(1, 0, 1), "note b", false)
	tells(t, "a", a, mark(5, 0, 1), "b", "", api.ErrSigned)
	signs(t, "b", b, mark(5, 0, 1), "b", "")
}
