package trie_test

import (
	"bytes"
	"fmt"
	"testing"

	"conclave/api"
	"conclave/keccak"
	"conclave/trie"
)

// P1001: Empty is the hash of the encoding of the empty bytes.
func TestEmpty(t *testing.T) {
	if got := fmt.Sprintf("%x", trie.Empty()); got != "56e81f171bcc55a6ff8345e692c0f86e5b48e01b996cadc001622fb5e363b421" {
		t.Errorf("Empty: %s", got)
	}
	if trie.Empty() != keccak.Sum([]byte{0x80}) {
		t.Error("Empty is not the hash of 80")
	}
	if h, l := trie.Open(trie.Empty(), nil).Root(); h != trie.Empty() || len(l) != 0 {
		t.Errorf("the root of no pairs: %x, %v", h, l)
	}
}

// P1001: Compact of no nibbles, one, even and odd numbers of them, as a leaf's and not, and Expand of what it gives.
func TestCompact(t *testing.T) {
	for _, c := range []struct {
		nibbles, plain, leaf string
	}{
		{"", "00", "20"},
		{"00", "10", "30"},
		{"05", "15", "35"},
		{"0f", "1f", "3f"},
		{"0000", "0000", "2000"},
		{"0102", "0012", "2012"},
		{"0f0f", "00ff", "20ff"},
		{"010203", "1123", "3123"},
		{"000000", "1000", "3000"},
		{"01020304", "001234", "201234"},
		{"0f010c0b08", "1f1cb8", "3f1cb8"},
	} {
		nibbles := unhex(t, c.nibbles)
		for leaf, want := range map[bool]string{false: c.plain, true: c.leaf} {
			got, err := trie.Compact(nibbles, leaf)
			if fmt.Sprintf("%x", got) != want || err != api.OK {
				t.Errorf("Compact(%s, %v): %x, %d, not %s", c.nibbles, leaf, got, err, want)
			}
			back, isLeaf, err := trie.Expand(got)
			if !bytes.Equal(back, nibbles) || isLeaf != leaf || err != api.OK {
				t.Errorf("Expand(%s): %x, %v, %d", want, back, isLeaf, err)
			}
		}
	}
	if got, err := trie.Compact(nil, true); !bytes.Equal(got, []byte{0x20}) || err != api.OK {
		t.Errorf("Compact(nil, true): %x, %d", got, err)
	}
}

// P1001: Compact and Expand have no greatest number of nibbles.
func TestCompactMany(t *testing.T) {
	for _, n := range []int{127, 128, 129, 1000, 1001, 200000} {
		nibbles := make([]byte, n)
		for i := range nibbles {
			nibbles[i] = byte(i * 7 % 16)
		}
		for _, leaf := range []bool{false, true} {
			b, err := trie.Compact(nibbles, leaf)
			if len(b) != n/2+1 || err != api.OK {
				t.Errorf("Compact of %d nibbles: %d bytes, %d", n, len(b), err)
			}
			if !bytes.Equal(b, plainCompact(string(nibbles), leaf)) {
				t.Errorf("Compact of %d nibbles is not what the chapter says", n)
			}
			back, isLeaf, err := trie.Expand(b)
			if !bytes.Equal(back, nibbles) || isLeaf != leaf || err != api.OK {
				t.Errorf("Expand of %d nibbles: %d, %v, %d", n, len(back), isLeaf, err)
			}
		}
	}
}

// P1001: ErrArg of a nibble above 15, wherever it stands.
func TestCompactWrong(t *testing.T) {
	for _, n := range []byte{16, 17, 32, 127, 128, 255} {
		for _, nibbles := range [][]byte{{n}, {n, 0}, {0, n}, {1, n, 2}, {1, 2, n}, {n, n, n, n}, append(make([]byte, 500), n)} {
			for _, leaf := range []bool{false, true} {
				if b, err := trie.Compact(nibbles, leaf); len(b) != 0 || err != api.ErrArg {
					t.Errorf("Compact(%x, %v): %x, %d", nibbles, leaf, b, err)
				}
			}
		}
	}
	for n := range byte(16) {
		if _, err := trie.Compact([]byte{n, 15 - n}, false); err != api.OK {
			t.Errorf("Compact of %d: %d", n, err)
		}
	}
}

// P1001: Expand of no bytes, of each head byte, alone and with others behind it: just what Compact gives is taken, and goes back to the same bytes.
func TestExpand(t *testing.T) {
	for _, none := range [][]byte{nil, {}} {
		if l, leaf, err := trie.Expand(none); len(l) != 0 || leaf || err != api.ErrArg {
			t.Errorf("Expand of no bytes: %x, %v, %d", l, leaf, err)
		}
	}
	taken := 0
	for head := range 256 {
		for _, rest := range []string{"", "00", "ff", "1a", "00ff80", "20"} {
			b := append([]byte{byte(head)}, unhex(t, rest)...)
			right := head == 0 || head == 0x20 || head >= 0x10 && head < 0x20 || head >= 0x30 && head < 0x40
			nibbles, leaf, err := trie.Expand(b)
			if !right {
				if len(nibbles) != 0 || leaf || err != api.ErrArg {
					t.Errorf("Expand(%x): %x, %v, %d", b, nibbles, leaf, err)
				}
				continue
			}
			taken++
			if err != api.OK || leaf != (head >= 0x20) || len(nibbles) != 2*len(b)-2+head/16%2 {
				t.Errorf("Expand(%x): %x, %v, %d", b, nibbles, leaf, err)
			}
			if back, err := trie.Compact(nibbles, leaf); !bytes.Equal(back, b) || err != api.OK {
				t.Errorf("Compact of Expand(%x): %x, %d", b, back, err)
			}
		}
	}
	if taken != 34*6 {
		t.Errorf("%d were taken", taken)
	}
}
