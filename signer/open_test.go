package signer_test

import (
	"crypto/ed25519"
	"crypto/sha512"
	"fmt"
	"math/big"
	"slices"
	"strings"
	"testing"

	"conclave/api"
	"conclave/disk"
	"conclave/ed"
	"conclave/signer"
	"conclave/wal"
)

// P1601: a seed has 32 bytes, and that is asked ahead of all else.
func TestOpenSeed(t *testing.T) {
	long := append(seed(1), seed(2)...)
	d, down, rotten := room(t), room(t), written(t, "junk")
	down.Arm([]disk.Fault{{At: 1, Kind: disk.Crash}})
	down.Sync("a")
	for n := range 65 {
		if n == 32 {
			continue
		}
		what := fmt.Sprint("a seed of ", n, " bytes")
		refused(t, what, d, long[:n], api.ErrArg)
		refused(t, what+", no disk", nil, long[:n], api.ErrArg)
		refused(t, what+", down", down, long[:n], api.ErrArg)
		steps(t, what, rotten, 0, func() { refused(t, what+", rotten", rotten, long[:n], api.ErrArg) })
	}
	refused(t, "no seed", d, nil, api.ErrArg)
	refused(t, "no seed, no disk", nil, nil, api.ErrArg)
	refused(t, "no disk", nil, seed(1), api.ErrNil)
	refused(t, "down", down, seed(1), api.ErrCrash)
	refused(t, "rotten", rotten, seed(1), api.ErrRot)
	opened(t, "a seed of 32 bytes", d)
}

// P1601: an empty disk is not written, nor is one whose files are others'.
func TestOpenNothing(t *testing.T) {
	d := room(t)
	steps(t, "Open", d, 0, func() { stands(t, "an empty disk", opened(t, "an empty disk", d), signer.Mark{}, "", false) })
	others := map[string][]string{}
	for _, name := range []string{"chain.0", "sign", "sign.", "sign.00", "sign.x", "sign.-1", "sign2.0", "Sign.0", "asign.0"} {
		is(t, name, d.Append(name, []byte(framed("junk"))), api.OK)
		others[name] = []string{"junk"}
	}
	s := opened(t, "others' files", d)
	stands(t, "others' files", s, signer.Mark{}, "", false)
	has(t, "others' files", d, others)
	signs(t, "others' files", s, mark(1, 0, 1), "a", "")
	others["sign.0"] = []string{record(mark(1, 0, 1), "a", "")}
	has(t, "others' files and its own", d, others)
	d = room(t)
	is(t, "a file without bytes", d.Append("sign.7", nil), api.OK)
	s = opened(t, "a file without bytes", d)
	stands(t, "a file without bytes", s, signer.Mark{}, "", false)
	signs(t, "a file without bytes", s, mark(1, 0, 1), "a", "")
	has(t, "a file without bytes", d, map[string][]string{"sign.7": {record(mark(1, 0, 1), "a", "")}})
}

// P1601: what the last record tells is where the signer goes on, at the edges of what a record may be.
func TestOpenRecords(t *testing.T) {
	for _, c := range []struct {
		m          signer.Mark
		text, note string
	}{
		{mark(1, 0, 1), "", ""},
		{mark(1, 0, 2), "a", "n"},
		{mark(1, 0, 3), "\x80", "\x80"},
		{mark(1, mostRound, 3), strings.Repeat("a", 55), strings.Repeat("n", 56)},
		{mark(1<<64-1, 0, 1), strings.Repeat("a", 60000), ""},
		{mark(1<<64-1, mostRound, 3), "", strings.Repeat("n", 60000)},
	} {
		what := fmt.Sprint("a record of ", c.m)
		r := record(c.m, c.text, c.note)
		first := record(mark(1, 0, 1), "first", "")
		higher := record(mark(1<<64-1, mostRound, 3), "higher", "")
		for _, records := range [][]string{{r}, {first, r}, {higher, r}, {first, first, higher, r}, {"junk", r}, {first, "", r}, {list(), r}} {
			s := opened(t, what, written(t, records...))
			stands(t, what, s, c.m, c.note, false)
			tells(t, what, s, c.m, c.text+"!", c.note, api.ErrSigned)
			signs(t, what, s, c.m, c.text, "another note")
		}
		d := written(t, "junk", first, r)
		files := len(d.List())
		steps(t, what, d, files, func() { opened(t, what, d) })
	}
}

// flipped: a text with one bit the other way round.
func flipped(s api.Sig, at, bit int) api.Sig {
	s[at] ^= 1 << bit
	return s
}

// addL: a signature whose second half is greater by the order of the base.
func addL(s api.Sig) api.Sig {
	n := little(s[32:])
	copy(s[32:], half(n.Add(n, order())))
	return s
}

// without, with: items, one of them gone, and another one ahead of one of them.
func without(l []string, at int) []string           { return slices.Delete(slices.Clone(l), at, at+1) }
func with(l []string, at int, x string) []string    { return slices.Insert(slices.Clone(l), at, x) }
func changed(l []string, at int, x string) []string { return with(without(l, at), at, x) }

// little: the number of bytes, the lowest first.
func little(b []byte) *big.Int {
	b = slices.Clone(b)
	slices.Reverse(b)
	return new(big.Int).SetBytes(b)
}

// order: of the base.
func order() *big.Int {
	l, _ := new(big.Int).SetString("1000000000000000000000000000000014def9dea2f79cd65812631a5cf5d3ed", 16)
	return l
}

// half: the second half of a signature, of its number.
func half(n *big.Int) []byte {
	b := n.FillBytes(make([]byte, 32))
	slices.Reverse(b)
	return b
}

// otherSig: a signature of seed 1 that holds, but is not the one that the seed gives: its r is 7.
func otherSig(text string) api.Sig {
	h := sha512.Sum512(seed(1))
	h[0], h[31] = h[0]&^7, h[31]&0x7f|0x40
	first, key := ed.Encode(ed.Mul(api.Word{7}, ed.Base())), keyOf(1)
	k := sha512.Sum512(slices.Concat(first[:], key[:], []byte(text)))
	second := little(k[:])
	second.Mul(second, little(h[:32])).Add(second, big.NewInt(7)).Mod(second, order())
	return api.Sig(append(first[:], half(second)...))
}

// P1601, P1602: a signature that was made in another way holds, too, and it is the one that is told again.
func TestOpenOtherSignature(t *testing.T) {
	m, sig := mark(3, 2, 1), otherSig("text")
	if sig == sigOf(1, "text") || !ed25519.Verify(library(1).Public().(ed25519.PublicKey), []byte("text"), sig[:]) {
		t.Fatalf("no other signature: %x", sig)
	}
	d := written(t, list(items(m, "text", sig, "note")...))
	s := opened(t, "another signature", d)
	stands(t, "another signature", s, m, "note", false)
	for range 2 {
		if got, err := s.Sign(m, []byte("text"), nil); got != sig || err != api.OK {
			t.Errorf("told again: %x, %d, not %x", got, err, sig)
		}
	}
}

// endsInNought: a text whose signature's last byte is 0.
func endsInNought() string {
	for n := 0; ; n++ {
		text := fmt.Sprint("text ", n)
		if sig := sigOf(1, text); sig[63] == 0 {
			return text
		}
	}
}

// none: what is no record that seed 1 can have written.
func none() map[string]string {
	m, sig := mark(3, 2, 1), sigOf(1, "text")
	good := items(m, "text", sig, "note")
	all := list(good...)
	bad := map[string]string{
		"nothing":                 "",
		"junk":                    "junk",
		"no encoding":             "\x81\x05",
		"a record that is cut":    all[:len(all)-1],
		"a record and a byte":     all + "\x00",
		"a record twice":          all + all,
		"a head in another way":   "\xf9\x00" + all[1:],
		"bytes":                   str(all),
		"the items as bytes":      str(strings.Join(good, "")),
		"a number":                str("\x06"),
		"the empty bytes":         str(""),
		"the empty list":          list(),
		"a list within":           list(all),
		"two lists within":        list(list(good[:3]...), list(good[3:]...)),
		"a signature one short":   list(changed(good, 4, str(string(sig[:63])))...),
		"a signature one long":    list(changed(good, 4, str(string(sig[:])+"\x00"))...),
		"a signature and nought":  list(changed(good, 4, str("\x00"+string(sig[:])))...),
		"no signature":            list(changed(good, 4, str(""))...),
		"a signature of noughts":  list(items(m, "text", api.Sig{}, "note")...),
		"of another key":          list(items(m, "text", sigOf(2, "text"), "note")...),
		"of another text":         list(items(m, "text", sigOf(1, "texts"), "note")...),
		"of no text":              list(items(m, "text", sigOf(1, ""), "note")...),
		"of the note":             list(items(m, "text", sigOf(1, "note"), "note")...),
		"no text":                 list(items(m, "", sig, "note")...),
		"text and note turned":    list(items(m, "note", sig, "text")...),
		"a second half beyond L":  list(items(m, "text", addL(sig), "note")...),
		"text behind signature":   list(good[0], good[1], good[2], good[4], good[3], good[5]),
		"a first bit turned":      list(items(m, "text", flipped(sig, 0, 0), "note")...),
		"a middle bit turned":     list(items(m, "text", flipped(sig, 32, 0), "note")...),
		"a last bit turned":       list(items(m, "text", flipped(sig, 63, 7), "note")...),
		"a sign's bit turned":     list(items(m, "text", flipped(sig, 31, 7), "note")...),
		"a batch of another log":  "\x00\x00\x01a\x00\x00\x00\x011",
		"a list that goes beyond": "\xf8\xff" + all[2:],
	}
	empty := items(m, "", sigOf(1, ""), "")
	bad["a list for a text of nothing"] = list(changed(empty, 3, list())...)
	bad["a list for a note of nothing"] = list(changed(empty, 5, list())...)
	ends := endsInNought()
	nought := sigOf(1, ends)
	bad["a signature without the nought at its end"] = list(changed(items(m, ends, nought, "note"), 4, str(string(nought[:63])))...)
	for at := range good {
		bad[fmt.Sprint("without item ", at)] = list(without(good, at)...)
		bad[fmt.Sprint("a list for item ", at)] = list(changed(good, at, list())...)
		bad[fmt.Sprint("in a list: item ", at)] = list(changed(good, at, list(good[at]))...)
		bad[fmt.Sprint("twice: item ", at)] = list(with(good, at, good[at])...)
	}
	for at := range len(good) + 1 {
		bad[fmt.Sprint("more bytes at ", at)] = list(with(good, at, str(""))...)
		bad[fmt.Sprint("a list more at ", at)] = list(with(good, at, list())...)
	}
	numbers := []map[string][]string{
		{"height": {"", "\x00", "\x00\x01", "\x01\x00\x00\x00\x00\x00\x00\x00\x00", "\x01\x00\x00\x00\x00\x00\x00\x00\x03", "123456789"}},
		{"round": {"\x00", "\x00\x01", bigEndian(mostRound + 1), bigEndian(1 << 32), bigEndian(1<<32 + 2), bigEndian(1<<63 - 1), bigEndian(1 << 63), bigEndian(1<<64 - 1), "\x01\x00\x00\x00\x00\x00\x00\x00\x00", "\x01\x00\x00\x00\x00\x00\x00\x00\x02"}},
		{"step": {"", "\x00", "\x00\x01", "\x04", "\x05", "\x81", "\xff", bigEndian(256 + 1), bigEndian(1<<32 + 1), bigEndian(1<<63 + 1), bigEndian(1<<64 - 1), "\x01\x00\x00\x00\x00\x00\x00\x00\x01"}},
	}
	for at, kind := range numbers {
		for name, values := range kind {
			for _, v := range values {
				bad[fmt.Sprintf("%s %x", name, v)] = list(changed(good, at, str(v))...)
			}
		}
	}
	return bad
}

// P1601: the last record is none, alone or behind others; one ahead of the last is not asked.
func TestOpenNone(t *testing.T) {
	good := record(mark(3, 2, 1), "text", "note")
	for what, bad := range none() {
		refused(t, what, written(t, bad), seed(1), api.ErrRot)
		refused(t, what+", behind one", written(t, good, bad), seed(1), api.ErrRot)
		refused(t, what+", in a file of its own", written(t, record(mark(1, 0, 1), "a", strings.Repeat("n", 4096)), bad), seed(1), api.ErrRot)
		stands(t, what+", ahead of one", opened(t, what, written(t, bad, good)), mark(3, 2, 1), "note", false)
	}
	d := written(t, good)
	refused(t, "another seed", d, seed(2), api.ErrRot)
	refused(t, "a nought in the seed's place", d, make([]byte, 32), api.ErrRot)
	has(t, "refused", d, map[string][]string{"sign.0": {good}})
	stands(t, "the same seed", opened(t, "the same seed", d), mark(3, 2, 1), "note", false)
}

// full: a disk with a log of four files, and what stands in its last record.
func full(t *testing.T) (*disk.Disk, signer.Mark, string) {
	t.Helper()
	var records []string
	note := strings.Repeat("n", 4096)
	for n := range 4 {
		records = append(records, record(mark(1, n, 2), "a", note))
	}
	d := written(t, records...)
	if len(d.List()) != 4 {
		t.Fatalf("files %v", d.List())
	}
	return d, mark(1, 3, 2), note
}

// P1601: each error of wal.Open, at each of its steps.
func TestOpenFaults(t *testing.T) {
	d, last, note := full(t)
	for at := 1; at <= 5; at++ {
		for kind, want := range kinds() {
			d.Append("sign.3", []byte("cut"))
			d.Arm([]disk.Fault{{At: at, Kind: kind}})
			refused(t, fmt.Sprint("fault ", kind, " at ", at), d, seed(1), want)
			if kind == disk.Crash {
				refused(t, "down", d, seed(1), api.ErrCrash)
			}
			d.Boot(slices.Repeat([]int{1 << 20}, api.MaxFiles))
			stands(t, "well again", opened(t, "well again", d), last, note, false)
		}
	}
	d.Arm([]disk.Fault{{At: 5, Kind: disk.IO}, {At: 6, Kind: disk.Crash}})
	steps(t, "without a cut end", d, 4, func() { stands(t, "ahead of the fault", opened(t, "ahead of the fault", d), last, note, false) })
}

// P1601: a log that is rotten: a byte of it, files that do not follow, a cut end that is not the last.
func TestOpenRot(t *testing.T) {
	d, last, note := full(t)
	for i, name := range d.List() {
		b, _ := d.Read(name)
		for _, at := range []int{0, 3, 4, 8, 12, len(b) / 2, len(b) - 1} {
			is(t, "Spoil", d.Spoil(name, at, byte(1<<i)), api.OK)
			refused(t, fmt.Sprint(name, " at ", at), d, seed(1), api.ErrRot)
			is(t, "Spoil", d.Spoil(name, at, byte(1<<i)), api.OK)
		}
	}
	stands(t, "mended", opened(t, "mended", d), last, note, false)
	is(t, "Append", d.Append("sign.9", nil), api.OK)
	refused(t, "a file that does not follow", d, seed(1), api.ErrRot)
	is(t, "Remove", d.Remove("sign.9"), api.OK)
	is(t, "Append", d.Append("sign.1", []byte("cut")), api.OK)
	refused(t, "a cut end that is not the last", d, seed(1), api.ErrRot)
	is(t, "Truncate", d.Truncate("sign.1", len(wal.Frame([]byte(record(last, "a", note))))), api.OK)
	is(t, "Remove", d.Remove("sign.1"), api.OK)
	refused(t, "a file that is gone", d, seed(1), api.ErrRot)
	is(t, "Remove", d.Remove("sign.0"), api.OK)
	stands(t, "trimmed", opened(t, "trimmed", d), last, note, false)
	d.Arm([]disk.Fault{{At: 1, Kind: disk.IO}})
	is(t, "Spoil", d.Spoil("sign.2", 20, 1), api.OK)
	refused(t, "a fault ahead of the rot", d, seed(1), api.ErrIO)
	refused(t, "the rot", d, seed(1), api.ErrRot)
}
