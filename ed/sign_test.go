package ed_test

import (
	"bytes"
	"crypto/ed25519"
	"crypto/sha512"
	"encoding/hex"
	"fmt"
	"math/big"
	"testing"

	"conclave/api"
	"conclave/ed"
)

func unhex(t *testing.T, s string) []byte {
	t.Helper()
	b, err := hex.DecodeString(s)
	if err != nil {
		t.Fatal(err)
	}
	return b
}

// signed: a seed's key and its signature of a text.
func signed(t *testing.T, seed, msg []byte) (api.Key, api.Sig) {
	t.Helper()
	k, err := ed.Public(seed)
	s, err2 := ed.Sign(seed, msg)
	if err != api.OK || err2 != api.OK {
		t.Fatalf("Public and Sign of a seed of %d bytes: %v, %v", len(seed), err, err2)
	}
	return k, s
}

// asked: the number k of a signature: of its first half, the key, the text, modulo L.
func asked(first, key api.Key, msg []byte) *big.Int {
	h := sha512.Sum512(bytes.Join([][]byte{first[:], key[:], msg}, nil))
	return new(big.Int).Mod(numberOf(h[:]), primeL())
}

// plainVerify: as the words say.
func plainVerify(k api.Key, msg []byte, s api.Sig) bool {
	first := api.Key(s[:32])
	second := numberOf(s[32:])
	a, ok := plainDecode(k)
	r, ok2 := plainDecode(first)
	if !ok || !ok2 || second.Cmp(primeL()) >= 0 {
		return false
	}
	base, _ := plainDecode(lowFirst(over(num(4), num(5))))
	return plainMul(second, base) == plainAdd(r, plainMul(asked(first, k, msg), a))
}

// with: a signature of two halves.
func with(first api.Key, second *big.Int) api.Sig {
	half := lowFirst(second)
	return api.Sig(append(first[:], half[:]...))
}

// P502: the chapter's example, and the further ones of RFC 8032, whole.
func TestExamples(t *testing.T) {
	for _, c := range []struct{ seed, key, msg, sig string }{
		{"9d61b19deffd5a60ba844af492ec2cc44449c5697b326919703bac031cae7f60", "d75a980182b10ab7d54bfed3c964073a0ee172f3daa62325af021a68f707511a", "",
			"e5564300c360ac729086e2cc806e828a84877f1eb8e5d974d873e065224901555fb8821590a33bacc61e39701cf9b46bd25bf5f0595bbe24655141438e7a100b"},
		{"4ccd089b28ff96da9db6c346ec114e0f5b8a319f35aba624da8cf6ed4fb8a6fb", "3d4017c3e843895a92b70aa74d1b7ebc9c982ccf2ec4968cc0cd55f12af4660c", "72",
			"92a009a9f0d4cab8720e820b5f642540a2b27b5416503f8fb3762223ebdb69da085ac1e43e15996e458f3613d0f11d8c387b2eaeb4302aeeb00d291612bb0c00"},
		{"c5aa8df43f9f837bedb7442f31dcb7b166d38535076f094b85ce3a2e0b4458f7", "fc51cd8e6218a1a38da47ed00230f0580816ed13ba3303ac5deb911548908025", "af82",
			"6291d657deec24024827e69c3abe01a30ce548a284743a445e3680d7db5ac3ac18ff9b538d16f290ae67f760984dc6594a7c15e9716ed28dc027beceea1ec40a"},
	} {
		msg := unhex(t, c.msg)
		k, s := signed(t, unhex(t, c.seed), msg)
		if fmt.Sprintf("%x", k) != c.key || fmt.Sprintf("%x", s) != c.sig {
			t.Errorf("seed %s: key %x, signature %x", c.seed, k, s)
		}
		if !ed.Verify(k, msg, s) || ed.Verify(k, append(msg, 1), s) {
			t.Errorf("seed %s: its signature does not hold, or holds for more", c.seed)
		}
	}
}

// P502, P504: keys and signatures are the library's, of texts of nothing, of one byte, of several blocks and beside their ends; they hold.
func TestAgainstLibrary(t *testing.T) {
	r := source()
	for _, n := range []int{0, 1, 2, 31, 32, 33, 47, 48, 49, 63, 64, 65, 79, 80, 81, 95, 96, 97, 111, 112, 127, 128, 129, 255, 256, 1000, 70000} {
		seed, msg := drawBytes(r, 32), drawBytes(r, n)
		k, s := signed(t, seed, msg)
		theirs := ed25519.NewKeyFromSeed(seed)
		if !bytes.Equal(k[:], theirs[32:]) || !bytes.Equal(s[:], ed25519.Sign(theirs, msg)) {
			t.Fatalf("seed %x, a text of %d bytes: key %x, signature %x", seed, n, k, s)
		}
		if !ed.Verify(k, msg, s) {
			t.Fatalf("seed %x, a text of %d bytes: the signature does not hold", seed, n)
		}
	}
	for _, seed := range [][]byte{make([]byte, 32), bytes.Repeat([]byte{0xff}, 32), bytes.Repeat([]byte{0x80}, 32)} {
		k, s := signed(t, seed, seed)
		theirs := ed25519.NewKeyFromSeed(seed)
		if !bytes.Equal(k[:], theirs[32:]) || !bytes.Equal(s[:], ed25519.Sign(theirs, seed)) {
			t.Fatalf("seed %x: key %x, signature %x", seed, k, s)
		}
	}
}

// P502: nil and no text at all are one text.
func TestNoText(t *testing.T) {
	seed := bytes.Repeat([]byte{3}, 32)
	k, s := signed(t, seed, nil)
	_, same := signed(t, seed, []byte{})
	if s != same || !ed.Verify(k, nil, s) || !ed.Verify(k, []byte{}, s) {
		t.Error("nil and an empty text differ")
	}
}

// P502: ErrArg for a seed that has not 32 bytes; all else is zero.
func TestSeedLengths(t *testing.T) {
	for n := range 70 {
		seed := bytes.Repeat([]byte{byte(n)}, n)
		wantErr := api.ErrArg
		if n == 32 {
			wantErr = api.OK
		}
		for _, msg := range [][]byte{nil, {1, 2, 3}} {
			if k, err := ed.Public(seed); err != wantErr || (k == api.Key{}) != (n != 32) {
				t.Errorf("Public of %d bytes: %x, %v", n, k, err)
			}
			if s, err := ed.Sign(seed, msg); err != wantErr || (s == api.Sig{}) != (n != 32) {
				t.Errorf("Sign with %d bytes: %x, %v", n, s, err)
			}
		}
	}
	if k, err := ed.Public(nil); k != (api.Key{}) || err != api.ErrArg {
		t.Errorf("Public of nil: %x, %v", k, err)
	}
	if s, err := ed.Sign(nil, []byte{1}); s != (api.Sig{}) || err != api.ErrArg {
		t.Errorf("Sign with nil: %x, %v", s, err)
	}
}

// P502: with any one byte changed, in the key, the text, either half, it does not hold.
func TestOneByteChanged(t *testing.T) {
	r := source()
	seed, msg := drawBytes(r, 32), drawBytes(r, 200)
	k, s := signed(t, seed, msg)
	for _, change := range []byte{0x01, 0x80, 0xff} {
		for i := range k {
			key := k
			key[i] ^= change
			if ed.Verify(key, msg, s) {
				t.Errorf("byte %d of the key changed by %x: it holds", i, change)
			}
		}
		for i := range s {
			sig := s
			sig[i] ^= change
			if ed.Verify(k, msg, sig) {
				t.Errorf("byte %d of the signature changed by %x: it holds", i, change)
			}
		}
	}
	for i := range msg {
		other := bytes.Clone(msg)
		other[i] ^= byte(1 << (i % 8))
		if ed.Verify(k, other, s) {
			t.Errorf("byte %d of the text changed: it holds", i)
		}
	}
	for _, other := range [][]byte{nil, msg[:199], msg[1:], append(bytes.Clone(msg), 0), append([]byte{0}, msg...)} {
		if ed.Verify(k, other, s) {
			t.Errorf("it holds for another text of %d bytes", len(other))
		}
	}
	other, _ := ed.Public(drawBytes(r, 32))
	if ed.Verify(other, msg, s) {
		t.Error("it holds for another seed's key")
	}
}

// P502: a second half of L and more does not hold, though it is the same number modulo L.
func TestSecondHalfTooGreat(t *testing.T) {
	k, s := signed(t, bytes.Repeat([]byte{9}, 32), []byte("text"))
	first, second := api.Key(s[:32]), numberOf(s[32:])
	for n := sum(second, primeL()); n.Cmp(power(256)) < 0; n = sum(n, primeL()) {
		if ed.Verify(k, []byte("text"), with(first, n)) {
			t.Errorf("it holds with the second half %x", n)
		}
	}
	// of the point that changes nothing, 0 holds; L, which is 0 modulo L, does not, L - 1 neither
	nought := plainEncode(still)
	if !ed.Verify(nought, nil, with(nought, num(0))) {
		t.Error("0 does not hold where it must")
	}
	for _, n := range []*big.Int{primeL(), times(primeL(), num(8)), less(primeL(), num(1)), sum(primeL(), num(1)), bigOf(ones)} {
		if ed.Verify(nought, nil, with(nought, n)) {
			t.Errorf("%x holds in place of 0", n)
		}
	}
	if last := plainEncode(away(ed.Base())); !ed.Verify(nought, nil, with(last, less(primeL(), num(1)))) {
		t.Error("L - 1 does not hold where it must")
	}
}

// P502: keys and first halves that are no point do not hold, though their Y or X modulo P would.
func TestNoPoints(t *testing.T) {
	k, s := signed(t, bytes.Repeat([]byte{8}, 32), nil)
	nought := plainEncode(still)
	for _, bad := range []api.Key{withBit(num(1), true), withBit(sum(primeP(), num(1)), false), withBit(sum(primeP(), num(1)), true),
		withBit(less(primeP(), num(1)), true), withBit(primeP(), false), lowFirst(bigOf(ones)), lowFirst(num(2))} {
		if _, ok := plainDecode(bad); ok {
			t.Fatalf("%x is a point for the test", bad)
		}
		if ed.Verify(bad, nil, s) || ed.Verify(k, nil, with(bad, numberOf(s[32:]))) {
			t.Errorf("%x is taken for a point", bad)
		}
		for n := range int64(20) { // that change nothing, were they points: 0 would hold
			msg := []byte{byte(n)}
			if ed.Verify(bad, msg, with(nought, num(0))) || ed.Verify(nought, msg, with(bad, num(0))) || ed.Verify(bad, msg, with(bad, num(0))) {
				t.Errorf("%x is taken for a point", bad)
			}
		}
	}
}

// P502: keys and first halves that come round soon: the number times the base is just the first half's point and k times the key's, not some steps beside.
func TestSoonRound(t *testing.T) {
	r := source()
	held, broken := 0, 0
	for i, a := range rounds(t) {
		for j, p := range rounds(t) {
			for n := range byte(12) {
				k, first, msg := plainEncode(a), plainEncode(p), []byte{n, byte(i), byte(j)}
				s := with(first, num(0))
				got := ed.Verify(k, msg, s)
				if want := plainAdd(p, plainMul(asked(first, k, msg), a)) == still; got != want {
					t.Fatalf("Verify of %x, %x, %x: %v", k, msg, s, got)
				}
				if got {
					held++
				} else {
					broken++
				}
			}
		}
	}
	if held < 50 || broken < 50 {
		t.Errorf("%d hold and %d do not: the test shows little", held, broken)
	}
	// a right signature to whose first half, or key, such a point is added
	seed, msg := drawBytes(r, 32), []byte("text")
	k, s := signed(t, seed, msg)
	key, _ := plainDecode(k)
	first, _ := plainDecode(api.Key(s[:32]))
	for _, p := range rounds(t)[1:] {
		moved := with(plainEncode(plainAdd(first, p)), numberOf(s[32:]))
		if ed.Verify(k, msg, moved) || ed.Verify(plainEncode(plainAdd(key, p)), msg, s) {
			t.Error("it holds some steps beside")
		}
	}
}

// P502: keys that no seed has: a number's multiple of the base and a point that comes round soon. A signature made for such a key holds just where the words say so.
func TestMixedKeys(t *testing.T) {
	r := source()
	held, broken := 0, 0
	for range 40 {
		a, n := new(big.Int).Mod(bigOf(draw(r)), primeL()), new(big.Int).Mod(bigOf(draw(r)), primeL())
		key := plainAdd(plainMul(a, ed.Base()), rounds(t)[r.IntN(8)])
		first := plainAdd(plainMul(n, ed.Base()), rounds(t)[r.IntN(2)])
		k, f, msg := plainEncode(key), plainEncode(first), drawBytes(r, r.IntN(5))
		s := with(f, new(big.Int).Mod(sum(n, times(asked(f, k, msg), a)), primeL()))
		got := ed.Verify(k, msg, s)
		if got != plainVerify(k, msg, s) {
			t.Fatalf("Verify of %x, %x, %x: %v", k, msg, s, got)
		}
		if got {
			held++
		} else {
			broken++
		}
	}
	if held == 0 || broken == 0 {
		t.Errorf("%d hold and %d do not: the test shows little", held, broken)
	}
}

// P504: what is signed holds, for that key and that text; with another second half, below L, it does not.
func TestSignedHolds(t *testing.T) {
	r := source()
	for range 10 {
		seed, msg := drawBytes(r, 32), drawBytes(r, r.IntN(300))
		k, s := signed(t, seed, msg)
		if !ed.Verify(k, msg, s) || !plainVerify(k, msg, s) {
			t.Fatalf("seed %x, text %x: it does not hold", seed, msg)
		}
		first, second := api.Key(s[:32]), numberOf(s[32:])
		if second.Cmp(primeL()) >= 0 {
			t.Fatalf("a second half of %x", second)
		}
		others := []*big.Int{num(0), num(1), less(primeL(), num(1)), less(primeL(), second), sum(second, num(1)), less(second, num(1)), sum(second, num(8)), new(big.Int).Rsh(second, 1), bigOf(draw(r))}
		for _, n := range others {
			n = new(big.Int).Mod(n, primeL())
			if n.Cmp(second) != 0 && ed.Verify(k, msg, with(first, n)) {
				t.Errorf("seed %x, text %x: it holds with the second half %x", seed, msg, n)
			}
		}
	}
}

// P502, rule 5: the same seed and text have the same signature, whatever was signed between.
func TestSameAgain(t *testing.T) {
	seed, msg := bytes.Repeat([]byte{5}, 32), []byte("text")
	k, s := signed(t, seed, msg)
	signed(t, bytes.Repeat([]byte{6}, 32), []byte("another"))
	if k2, s2 := signed(t, seed, msg); k2 != k || s2 != s {
		t.Error("another signature of the same text")
	}
	if _, s2 := signed(t, seed, []byte("texts")); bytes.Equal(s2[:32], s[:32]) {
		t.Error("two texts have one first half: that gives the seed away")
	}
}

// Rule 4: seeds and texts stay as they were, their spare room too.
func TestInputsStay(t *testing.T) {
	for _, n := range []int{0, 1, 31, 32, 33, 200} {
		for _, m := range []int{0, 1, 64, 128, 300} {
			seedRoom, msgRoom := bytes.Repeat([]byte{0xb7}, n+200), bytes.Repeat([]byte{0x5d}, m+200)
			seed, msg := seedRoom[:n], msgRoom[:m]
			k, _ := ed.Public(seed)
			s, _ := ed.Sign(seed, msg)
			ed.Verify(k, msg, s)
			if !bytes.Equal(seedRoom, bytes.Repeat([]byte{0xb7}, n+200)) || !bytes.Equal(msgRoom, bytes.Repeat([]byte{0x5d}, m+200)) {
				t.Fatalf("a seed of %d bytes or a text of %d was changed", n, m)
			}
		}
	}
	// a seed and a text that lie in one memory
	room := bytes.Repeat([]byte{1}, 64)
	s, _ := ed.Sign(room[:32], room)
	if want, _ := ed.Sign(bytes.Repeat([]byte{1}, 32), bytes.Repeat([]byte{1}, 64)); s != want {
		t.Error("a seed within the text is signed otherwise")
	}
}
