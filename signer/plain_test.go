package signer_test

import (
	"crypto/ed25519"
	"fmt"
	"math/rand/v2"
	"strings"
	"testing"

	"conclave/api"
	"conclave/disk"
	"conclave/signer"
	"conclave/wal"
)

// plain: the chapter's words said over again, over the library's signatures; it stands on a disk of its own.
type plain struct {
	d          *disk.Disk
	log        *wal.Log
	key        ed25519.PrivateKey
	last       signer.Mark
	text, note string
	sig        string
	found      bool
	halted     bool
}

// plainStrings: the bytes of a list's items, none of which is a list; how they were written is not asked.
func plainStrings(b string) ([]string, bool) {
	take := func(n uint64) (string, bool) {
		if n > uint64(len(b)) {
			return "", false
		}
		part := b[:n]
		b = b[n:]
		return part, true
	}
	body := func(first byte) (string, bool) {
		if first <= 55 {
			return take(uint64(first))
		}
		told, ok := take(uint64(first) - 55)
		n := uint64(0)
		for _, c := range []byte(told) {
			n = n<<8 | uint64(c)
		}
		part, fits := take(n)
		return part, ok && fits
	}
	head, ok := take(1)
	if !ok || head[0] < 0xc0 {
		return nil, false
	}
	inner, ok := body(head[0] - 0xc0)
	if !ok || b != "" {
		return nil, false
	}
	var out []string
	for b = inner; b != ""; {
		head, _ := take(1)
		part := head
		if head[0] >= 0x80 {
			part, ok = body(head[0] - 0x80)
		}
		if !ok || head[0] >= 0xc0 {
			return nil, false
		}
		out = append(out, part)
	}
	return out, true
}

// plainNumber: of its bytes, if it is at most that.
func plainNumber(b string, most uint64) (uint64, bool) {
	n := uint64(0)
	for _, c := range []byte(b) {
		n = n<<8 | uint64(c)
	}
	return n, len(b) <= 8 && n <= most
}

// take: what the last record tells; false, if it is none.
func (p *plain) take(b string) bool {
	parts, ok := plainStrings(b)
	if !ok || len(parts) != 6 || len(parts[4]) != 64 {
		return false
	}
	height, ok1 := plainNumber(parts[0], 1<<64-1)
	round, ok2 := plainNumber(parts[1], mostRound)
	step, ok3 := plainNumber(parts[2], 3)
	m := mark(height, int(round), int(step))
	again := list(items(m, parts[3], api.Sig([]byte(parts[4])), parts[5])...)
	if !ok1 || !ok2 || !ok3 || height == 0 || step == 0 || again != b {
		return false
	}
	p.last, p.text, p.sig, p.note, p.found = m, parts[3], parts[4], parts[5], true
	return ed25519.Verify(p.key.Public().(ed25519.PublicKey), []byte(p.text), []byte(p.sig))
}

func plainOpen(d *disk.Disk, seed []byte) (*plain, api.Errno) {
	if len(seed) != 32 {
		return nil, api.ErrArg
	}
	l, err := wal.Open(d, "sign", 4096)
	if err != api.OK {
		return nil, err
	}
	p := &plain{d: d, log: l, key: ed25519.NewKeyFromSeed(seed)}
	if l.End() > l.First() {
		b, _ := l.Get(l.End() - 1)
		if !p.take(string(b)) {
			return nil, api.ErrRot
		}
	}
	return p, api.OK
}

// newest: the file of the log that has the greatest number of those that have a record.
func (p *plain) newest() string {
	name, most := "", -1
	for _, s := range p.d.List() {
		n := 0
		if _, err := fmt.Sscanf(s, "sign.%d", &n); err == nil && n < p.log.End() && n > most {
			name, most = s, n
		}
	}
	return name
}

func (p *plain) sign(m signer.Mark, text, note string) (string, api.Errno) {
	if p.halted {
		return "", api.ErrHalt
	}
	if m.Height == 0 || m.Round < 0 || m.Round > mostRound || m.Step != 1 && m.Step != 2 && m.Step != 3 {
		return "", api.ErrArg
	}
	if below(m, p.last) || m == p.last && text != p.text {
		return "", api.ErrSigned
	}
	var err api.Errno
	if m == p.last {
		if p.found { // whether it was synced nobody knows
			err = p.d.Sync(p.newest())
		}
		if p.found, p.halted = false, err != api.OK; p.halted {
			return "", err
		}
		return p.sig, api.OK
	}
	sig := ed25519.Sign(p.key, []byte(text))
	b := list(items(m, text, api.Sig(sig), note)...)
	if len(b) > 65536 {
		return "", api.ErrBig
	}
	if err = p.log.Append([]byte(b)); err == api.OK {
		err = p.log.Sync()
	}
	if err != api.OK {
		p.halted = true
		return "", err
	}
	p.last, p.text, p.note, p.sig, p.found = m, text, note, string(sig), false
	p.halted = p.log.Trim(p.log.End()-1) != api.OK
	return p.sig, api.OK
}

// both: the signer and the chapter's words, each on its own disk, to which the same is done.
type both struct {
	r    *rand.Rand
	d, e *disk.Disk
	s    *signer.Signer
	p    *plain
	met  map[string]int
}

// disks: the same call of both disks.
func (x *both) disks(call func(d *disk.Disk) string) (string, string) {
	return call(x.d), call(x.e)
}

// mark: one near the last; now and then one that can't be.
func (x *both) mark() signer.Mark {
	m := x.p.last
	switch x.r.IntN(12) {
	case 0, 1, 2:
		return m
	case 3:
		m.Round, m.Step = m.Round+x.r.IntN(2), x.r.IntN(6)
	case 4:
		m.Round += []int{-1, 1 << 31, -mostRound}[x.r.IntN(3)]
	case 5:
		m.Height, m.Step = m.Height-1, 3
	case 6, 7:
		m.Step++
	case 8, 9:
		m.Round, m.Step = m.Round+1, 1+x.r.IntN(3)
	default:
		m.Height, m.Round, m.Step = m.Height+1, x.r.IntN(200), 1+x.r.IntN(3)
	}
	return m
}

// text: one of a few; now and then a great one.
func (x *both) text(last string) string {
	switch x.r.IntN(24) {
	case 0:
		return strings.Repeat("t", 65300+x.r.IntN(300))
	case 1:
		return strings.Repeat("t", x.r.IntN(5000))
	case 2, 3, 4, 5, 6:
		return strings.Repeat("t", x.r.IntN(3))
	}
	return last
}

func (x *both) sign() (string, string) {
	m, text, note := x.mark(), x.text(x.p.text), x.text("note")
	sig, err := x.s.Sign(m, []byte(text), []byte(note))
	want, wrong := x.p.sign(m, text, note)
	if wrong != api.OK {
		want = string(make([]byte, 64))
	}
	return fmt.Sprintf("sign %d %x", int(err), sig), fmt.Sprintf("sign %d %x", int(wrong), want)
}

func (x *both) open() (string, string) {
	with := seed(1)
	if x.r.IntN(20) == 0 {
		with = append(seed(2), 0)[:31+x.r.IntN(3)]
	}
	s, err := signer.Open(x.d, with)
	p, wrong := plainOpen(x.e, with)
	x.s, x.p = s, p
	return fmt.Sprint("open ", int(err), " ", s == nil), fmt.Sprint("open ", int(wrong), " ", p == nil)
}

// foreign: a record that some log has, right or wrong.
func (x *both) foreign() string {
	m := mark(uint64(x.r.IntN(9)), x.r.IntN(4), x.r.IntN(5))
	l := items(m, "t", sigOf(1+x.r.IntN(12)/11, "t"), "n")
	switch x.r.IntN(8) {
	case 0:
		l = l[x.r.IntN(2):5]
	case 1:
		l[x.r.IntN(6)] = str(strings.Repeat("\x00", x.r.IntN(3)))
	case 2:
		l[x.r.IntN(6)] = list(l[0])
	case 3:
		return strings.Join(l, "")[x.r.IntN(9):]
	}
	return list(l...)
}

// meddle: what befalls the disk; the signer is opened anew behind it.
func (x *both) meddle() (string, string) {
	x.s, x.p = nil, nil
	switch x.r.IntN(6) {
	case 0:
		b := x.foreign()
		return x.disks(func(d *disk.Disk) string {
			l, err := wal.Open(d, "sign", 4096)
			if err == api.OK {
				err = l.Append([]byte(b))
			}
			return fmt.Sprint("foreign ", int(err))
		})
	case 1:
		names := append(x.e.List(), "sign.0")
		name, at, by := names[x.r.IntN(len(names))], x.r.IntN(200), byte(x.r.IntN(4))
		return x.disks(func(d *disk.Disk) string { return fmt.Sprint("spoil ", int(d.Spoil(name, at, by))) })
	}
	kept := make([]int, x.r.IntN(17))
	for i := range kept {
		kept[i] = x.r.IntN(9000)
	}
	return x.disks(func(d *disk.Disk) string { d.Boot(kept); return "boot 0" })
}

// call: one drawn call of both.
func (x *both) call() (string, string) {
	n := x.r.IntN(20)
	switch {
	case x.p == nil && (x.e.Down() || n < 3), n == 0:
		return x.meddle()
	case x.p == nil, x.e.Down() && n < 12, x.p.halted && n < 8, n == 1:
		return x.open()
	case n < 5:
		plan := []disk.Fault{{At: 1 + x.r.IntN(5), Kind: 1 + x.r.IntN(3)}, {At: 6 + x.r.IntN(9), Kind: 1 + x.r.IntN(2)}}
		return x.disks(func(d *disk.Disk) string { return fmt.Sprint("arm ", int(d.Arm(plan))) })
	}
	return x.sign()
}

// same: the looks of both, and of both disks; now and then with the bytes of all files, which makes steps.
func (x *both) same() (string, string) {
	whole := x.r.IntN(10) == 0
	got, want := x.disks(func(d *disk.Disk) string {
		all := []string{fmt.Sprint(d.Steps(), d.Down(), d.List())}
		for _, name := range d.List() {
			if whole {
				b, err := d.Read(name)
				all = append(all, fmt.Sprint(name, int(err), string(b)))
			}
		}
		return strings.Join(all, ", ")
	})
	if x.p == nil {
		return got, want
	}
	last, note := x.s.Last()
	key := x.p.key.Public().(ed25519.PublicKey)
	return fmt.Sprintf("%v %s %v %x %s", last, note, x.s.Halted(), x.s.Key(), got), fmt.Sprintf("%v %s %v %x %s", x.p.last, x.p.note, x.p.halted, key, want)
}

// P1601 to P1603: drawn calls answer what the chapter's words say, make the same steps, and leave the same files.
func TestDrawn(t *testing.T) {
	r := rand.New(rand.NewPCG(16, 3))
	met := map[string]int{}
	for range 150 {
		size := 1 << 22
		if r.IntN(3) == 0 {
			size = 4000 + r.IntN(12000)
		}
		x := &both{r: r, met: met}
		x.d, _ = disk.New(size)
		x.e, _ = disk.New(size)
		for step := range 100 {
			got, want := x.call()
			if got != want {
				t.Fatalf("call %d: %.200s, not %.200s", step, got, want)
			}
			kind := strings.Join(strings.Fields(want)[:2], " ")
			met[kind]++
			if a, b := x.same(); a != b {
				t.Fatalf("behind call %d (%.99s): %.400q, not %.400q", step, want, a, b)
			}
			if kind == "open 34" && r.IntN(3) == 0 { // what is rotten stays so
				break
			}
		}
	}
	for _, want := range []string{"sign 0", "sign 1", "sign 3", "sign 30", "sign 31", "sign 32", "sign 73", "sign 74", "open 0", "open 1", "open 30", "open 31", "open 32", "open 34", "foreign 0", "boot 0"} {
		if met[want] < 5 {
			t.Errorf("too few draws met %q: %v", want, met)
		}
	}
}
