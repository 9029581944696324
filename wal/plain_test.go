package wal_test

import (
	"encoding/binary"
	"fmt"
	"hash/crc32"
	"math/rand/v2"
	"regexp"
	"slices"
	"strconv"
	"strings"
	"testing"

	"conclave/api"
	"conclave/disk"
	"conclave/wal"
)

// plainFile: a file of a log as the chapter tells it.
type plainFile struct {
	n       int
	records []string
}

func (f plainFile) size() int { return len(framed(f.records...)) }

func (f plainFile) end() int { return f.n + len(f.records) }

// plain: the chapter's words said over again, by files with their records; it stands on a disk of its own.
type plain struct {
	d     *disk.Disk
	name  string
	most  int
	files []plainFile
	since bool // something was appended
}

// plainNext: the record of a frame, in the order of the words.
func plainNext(b string) (string, api.Errno) {
	if len(b) < 12 {
		return "", api.ErrEnd
	}
	told := binary.BigEndian.Uint32([]byte(b))
	if crc32.ChecksumIEEE([]byte(b[:4])) != binary.BigEndian.Uint32([]byte(b[4:])) || told > 65536 {
		return "", api.ErrRot
	}
	if uint64(len(b)) < 12+uint64(told) {
		return "", api.ErrEnd
	}
	if b = b[:12+told]; framed(b[12:]) != b {
		return "", api.ErrRot
	}
	return b[12:], api.OK
}

func plainOpen(d *disk.Disk, name string, most int) (*plain, api.Errno) {
	if !regexp.MustCompile(`^[a-zA-Z0-9]{1,16}$`).MatchString(name) || most <= 0 {
		return nil, api.ErrArg
	}
	if d.Down() {
		return nil, api.ErrCrash
	}
	p := &plain{d: d, name: name, most: most}
	ours := regexp.MustCompile(`^` + name + `\.(0|[1-9][0-9]{0,8})$`)
	for _, s := range d.List() {
		if m := ours.FindStringSubmatch(s); m != nil {
			n, _ := strconv.Atoi(m[1])
			p.files = append(p.files, plainFile{n: n})
		}
	}
	slices.SortFunc(p.files, func(a, b plainFile) int { return a.n - b.n })
	for i := range p.files {
		if err := p.read(i); err != api.OK {
			return nil, err
		}
	}
	return p, api.OK
}

func (p *plain) read(i int) api.Errno {
	f := &p.files[i]
	name := fmt.Sprint(p.name, ".", f.n)
	b, err := p.d.Read(name)
	if err != api.OK {
		return err
	}
	if i > 0 && f.n != p.files[i-1].end() {
		return api.ErrRot
	}
	for rest := string(b); rest != ""; rest = rest[12+len(f.records[len(f.records)-1]):] {
		record, err := plainNext(rest)
		if err == api.ErrEnd && i == len(p.files)-1 {
			return p.d.Truncate(name, f.size())
		}
		if err != api.OK {
			return api.ErrRot
		}
		f.records = append(f.records, record)
	}
	return api.OK
}

func (p *plain) first() int {
	if len(p.files) == 0 {
		return 0
	}
	return p.files[0].n
}

func (p *plain) end() int {
	if len(p.files) == 0 {
		return 0
	}
	return p.files[len(p.files)-1].end()
}

func (p *plain) sync() api.Errno {
	if !p.since {
		return api.OK
	}
	err := p.d.Sync(fmt.Sprint(p.name, ".", p.files[len(p.files)-1].n))
	p.since = err != api.OK
	return err
}

func (p *plain) append(s string) api.Errno {
	if len(s) > 65536 {
		return api.ErrBig
	}
	old := slices.Clone(p.files)
	if len(old) > 0 && old[len(old)-1].size() >= p.most {
		if err := p.sync(); err != api.OK {
			return err
		}
		p.files = append(p.files, plainFile{n: p.end()})
	}
	if len(old) == 0 {
		p.files = []plainFile{{}}
	}
	f := &p.files[len(p.files)-1]
	if err := p.d.Append(fmt.Sprint(p.name, ".", f.n), []byte(framed(s))); err != api.OK {
		p.files = old
		return err
	}
	f.records = append(f.records, s)
	p.since = true
	return api.OK
}

func (p *plain) trim(n int) api.Errno {
	for len(p.files) > 1 && p.files[0].end() <= n {
		if err := p.d.Remove(fmt.Sprint(p.name, ".", p.files[0].n)); err != api.OK {
			return err
		}
		p.files = p.files[1:]
	}
	return api.OK
}

func (p *plain) get(n int) (string, api.Errno) {
	for _, f := range p.files {
		if n >= f.n && n < f.end() {
			return f.records[n-f.n], api.OK
		}
	}
	return "", api.ErrGone
}

// pair: the log and the chapter's words, each on its own disk, to which the same is done.
type pair struct {
	r *rand.Rand
	d *disk.Disk
	e *disk.Disk
	l *wal.Log
	p *plain
}

// disks: the same call of both disks, which must agree.
func (x *pair) disks(call func(d *disk.Disk) string) (string, string) {
	return call(x.d), call(x.e)
}

// open: both, with arguments that are drawn; where they are refused, others are tried another time.
func (x *pair) open() (string, string) {
	name, most := "log", 1+x.r.IntN(90)
	if x.r.IntN(20) == 0 {
		name = []string{"", "log.", "log0", "seventeen bytes!!"}[x.r.IntN(4)]
	}
	if x.r.IntN(20) == 0 {
		most = -x.r.IntN(3)
	}
	l, err := wal.Open(x.d, name, most)
	p, wrong := plainOpen(x.e, name, most)
	x.l, x.p = l, p
	return fmt.Sprint("open ", int(err), " ", l == nil), fmt.Sprint("open ", int(wrong), " ", p == nil)
}

// meddle: what another one might do to the disk; the log is opened anew behind it.
func (x *pair) meddle() (string, string) {
	x.l, x.p = nil, nil
	names := append(x.e.List(), "log.0", "log.00", "log.3", "log0.0", "log.x")
	name, at, by := names[x.r.IntN(len(names))], x.r.IntN(60), byte(x.r.IntN(256))
	switch x.r.IntN(5) {
	case 0:
		return x.disks(func(d *disk.Disk) string { return fmt.Sprint("spoil ", int(d.Spoil(name, at, by))) })
	case 1:
		return x.disks(func(d *disk.Disk) string { return fmt.Sprint("cut ", int(d.Truncate(name, at))) })
	case 2:
		return x.disks(func(d *disk.Disk) string { return fmt.Sprint("remove ", int(d.Remove(name))) })
	case 3:
		return x.disks(func(d *disk.Disk) string {
			return fmt.Sprint("junk ", int(d.Append(name, []byte(framed("junk")[:at%17]))))
		})
	}
	kept := make([]int, x.r.IntN(17))
	for i := range kept {
		kept[i] = x.r.IntN(100)
	}
	return x.disks(func(d *disk.Disk) string { d.Boot(kept); return "boot" })
}

// call: one drawn call of both.
func (x *pair) call() (string, string) {
	n := x.r.IntN(30) - 3
	if x.p.first() > 0 {
		n += x.p.first() - 5
	}
	switch x.r.IntN(16) {
	case 0:
		plan := []disk.Fault{{At: 1 + x.r.IntN(4), Kind: 1 + x.r.IntN(3)}, {At: 5 + x.r.IntN(9), Kind: 1 + x.r.IntN(2)}}
		return x.disks(func(d *disk.Disk) string { return fmt.Sprint("arm ", int(d.Arm(plan))) })
	case 1, 2, 3:
		return fmt.Sprint("sync ", int(x.l.Sync())), fmt.Sprint("sync ", int(x.p.sync()))
	case 4:
		return fmt.Sprint("trim ", int(x.l.Trim(n))), fmt.Sprint("trim ", int(x.p.trim(n)))
	case 5, 6, 7:
		b, err := x.l.Get(n)
		want, wrong := x.p.get(n)
		return fmt.Sprintf("get %d %x", int(err), b), fmt.Sprintf("get %d %x", int(wrong), want)
	case 8:
		return x.open()
	case 9:
		if x.r.IntN(4) == 0 {
			return x.meddle()
		}
	}
	size := x.r.IntN(40)
	if x.r.IntN(30) == 0 {
		size = 65536 + x.r.IntN(2)
	}
	b := drawn(x.r, size)
	return fmt.Sprint("append ", int(x.l.Append(b))), fmt.Sprint("append ", int(x.p.append(string(b))))
}

// same: the looks of both logs and of both disks; now and then with the bytes of all files, which makes steps.
func (x *pair) same() (string, string) {
	whole := x.r.IntN(10) == 0
	got, want := x.disks(func(d *disk.Disk) string {
		all := []string{fmt.Sprint(d.Steps(), d.Down(), d.List())}
		for _, name := range d.List() {
			if whole {
				b, err := d.Read(name)
				all = append(all, fmt.Sprint(name, int(err), string(b)))
			}
		}
		return strings.Join(all, ", ")
	})
	if x.p == nil {
		return got, want
	}
	return fmt.Sprint(got, x.l.First(), x.l.End()), fmt.Sprint(want, x.p.first(), x.p.end())
}

// kind: a call and its error, without what else it answers.
func kind(s string) string {
	words := strings.Fields(s)
	return strings.Join(words[:min(2, len(words))], " ")
}

// P802 to P804: drawn calls answer what the chapter's words say, make the same steps, and leave the same files.
func TestDrawn(t *testing.T) {
	r := rand.New(rand.NewPCG(8, 4))
	met := map[string]int{}
	for range 600 {
		size := 200 + r.IntN(3000)
		if r.IntN(4) == 0 {
			size = 200000
		}
		x := &pair{r: r}
		x.d, _ = disk.New(size)
		x.e, _ = disk.New(size)
		for step := range 150 {
			call := x.call
			if x.p == nil && (x.e.Down() || r.IntN(8) == 0) {
				call = x.meddle
			} else if x.p == nil || x.e.Down() {
				call = x.open
			}
			got, want := call()
			if got != want {
				t.Fatalf("call %d: %.99s, not %.99s", step, got, want)
			}
			met[kind(want)]++
			if a, b := x.same(); a != b {
				t.Fatalf("behind call %d (%.99s): %.999q, not %.999q", step, want, a, b)
			}
			if kind(want) == "open 34" && r.IntN(3) == 0 { // what is rotten stays so
				break
			}
		}
	}
	for _, want := range []string{"append 0", "append 3", "append 30", "append 31", "append 32", "sync 0", "sync 30", "sync 31", "sync 32", "trim 0", "trim 30", "trim 31", "trim 32", "get 0", "get 33", "open 0", "open 1", "open 30", "open 31", "open 32", "open 34"} {
		if met[want] < 5 {
			t.Errorf("too few draws met %q: %v", want, met)
		}
	}
}
