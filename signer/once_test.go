package signer_test

import (
	"crypto/ed25519"
	"fmt"
	"math/rand/v2"
	"strings"
	"testing"

	"conclave/api"
	"conclave/disk"
	"conclave/signer"
)

// P1604: a Sync that failed leaves a record that a signer finds which is opened without a crash. What that one tells of it lasts: no crash behind it lets another text be signed, nor a lesser mark.
func TestUnsynced(t *testing.T) {
	for _, scene := range scenes() {
		for _, kind := range []int{disk.IO, disk.Full} {
			for _, again := range []bool{true, false} {
				x := scene(t)
				what := fmt.Sprint(x.what, ", fault ", kind, ", told again: ", again)
				x.d.Arm([]disk.Fault{{At: 2, Kind: kind}})
				tells(t, what, x.s, nextMark(), nextText, nextNote, kinds()[kind])
				s := opened(t, what, x.d)
				stands(t, what, s, nextMark(), nextNote, false)
				tells(t, what, s, nextMark(), "another", "", api.ErrSigned)
				if again {
					signs(t, what, s, nextMark(), nextText, "")
				}
				x.d.Boot(nil)
				s = opened(t, what+", booted", x.d)
				goes(t, what+", booted", s, x, again)
			}
		}
	}
}

// P1604: a record that was found unsynced lasts with the one that is signed behind it.
func TestUnsyncedNext(t *testing.T) {
	for _, scene := range scenes() {
		x := scene(t)
		x.d.Arm([]disk.Fault{{At: 2, Kind: disk.IO}})
		tells(t, x.what, x.s, nextMark(), nextText, nextNote, api.ErrIO)
		s := opened(t, x.what, x.d)
		signs(t, x.what, s, mark(2, 0, 2), "behind", "n")
		x.d.Boot(nil)
		s = opened(t, x.what+", booted", x.d)
		stands(t, x.what, s, mark(2, 0, 2), "n", false)
		tells(t, x.what, s, nextMark(), "another", "", api.ErrSigned)
		signs(t, x.what, s, mark(2, 0, 2), "behind", "")
	}
}

// life: of a validator on one disk, through all its openings; and all that it signed.
type life struct {
	r     *rand.Rand
	d     *disk.Disk
	s     *signer.Signer
	texts map[signer.Mark]string
	top   signer.Mark
	tried signer.Mark // what was asked for last, whether it was signed or not
	text  string
	met   map[string]int
}

// below: by the words, without Less.
func below(a, b signer.Mark) bool {
	return a.Height < b.Height || a.Height == b.Height && (a.Round < b.Round || a.Round == b.Round && a.Step < b.Step)
}

// signed: what was told holds, is the only text of its mark, and no mark above was signed.
func (l *life) signed(m signer.Mark, text string, sig api.Sig) string {
	old, again := l.texts[m]
	switch {
	case !ed25519.Verify(library(1).Public().(ed25519.PublicKey), []byte(text), sig[:]):
		return "a signature does not hold"
	case again && old != text:
		return "two texts for one mark"
	case below(m, l.top):
		return "a mark below one that was signed"
	}
	l.texts[m], l.top = text, m
	l.met[fmt.Sprint("again ", again)]++
	return ""
}

// draw: a mark near the last one, now and then one that can't be, and a text; often those that were asked for last.
func (l *life) draw() (signer.Mark, string) {
	m, text := l.tried, l.text
	if l.r.IntN(3) > 0 {
		m = mark(l.top.Height+uint64(l.r.IntN(3)), l.r.IntN(3), 1+l.r.IntN(3))
	}
	if l.r.IntN(3) > 0 {
		m.Height = max(m.Height, 1) - uint64(l.r.IntN(20)/19)
	}
	if l.r.IntN(2) == 0 {
		text = []string{"", "a", "b", "ab"}[l.r.IntN(4)]
	}
	return m, text
}

func (l *life) sign() string {
	m, text := l.draw()
	l.tried, l.text = m, text
	sig, err := l.s.Sign(m, []byte(text), []byte(strings.Repeat("n", l.r.IntN(5)/4*l.r.IntN(5000))))
	l.met[fmt.Sprint("sign ", int(err))]++
	if err == api.OK {
		return l.signed(m, text, sig)
	}
	if sig != (api.Sig{}) {
		return "a signature beside an error"
	}
	return ""
}

// open: the signer anew, behind a crash or not.
func (l *life) open(crash bool) string {
	if crash || l.d.Down() {
		kept := make([]int, l.r.IntN(api.MaxFiles))
		for i := range kept {
			kept[i] = l.r.IntN(6000)
		}
		l.d.Boot(kept)
	}
	s, err := signer.Open(l.d, seed(1))
	l.met[fmt.Sprint("open ", int(err))]++
	if err != api.OK {
		return ""
	}
	l.s = s
	if last, _ := s.Last(); below(last, l.top) {
		return "a mark that was signed is gone"
	}
	return ""
}

// step: whatever may befall a validator.
func (l *life) step() string {
	switch n := l.r.IntN(16); {
	case l.s == nil:
		return l.open(l.r.IntN(2) == 0)
	case l.s.Halted() && n < 6:
		return l.open(n < 3)
	case n == 0:
		return l.open(true)
	case n == 1 && !l.d.Down():
		return l.open(false)
	case n < 5:
		var plan []disk.Fault
		for at := range l.r.IntN(3) {
			plan = append(plan, disk.Fault{At: 1 + 3*at + l.r.IntN(3), Kind: 1 + l.r.IntN(3)})
		}
		l.d.Arm(plan)
		return ""
	case n == 5:
		l.d.Append("chain.0", []byte("another's"))
		return ""
	}
	return l.sign()
}

// P1604: over drawn scripts of marks, texts, faults, crashes and openings on one disk.
func TestOnce(t *testing.T) {
	r := rand.New(rand.NewPCG(16, 4))
	met := map[string]int{}
	for script := range 240 {
		room := 1 << 20
		if script%8 == 0 {
			room = 5000 + r.IntN(10000)
		}
		d, _ := disk.New(room)
		l := &life{r: r, d: d, texts: map[signer.Mark]string{}, met: met}
		for step := range 100 {
			if wrong := l.step(); wrong != "" {
				t.Fatalf("script %d, step %d: %s", script, step, wrong)
			}
		}
	}
	for _, want := range []string{"sign 0", "sign 1", "sign 30", "sign 31", "sign 32", "sign 73", "sign 74", "again true", "again false", "open 0", "open 30", "open 31", "open 32"} {
		if met[want] < 10 {
			t.Errorf("too few draws met %q: %v", want, met)
		}
	}
}
