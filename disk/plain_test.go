package disk_test

import (
	"bytes"
	"fmt"
	"math"
	"math/rand/v2"
	"slices"
	"testing"

	"conclave/api"
	"conclave/disk"
)

// plainFile: a file as the chapter tells it.
type plainFile struct {
	name string
	data string
	safe int
}

// plain: the chapter's words said over again, with a list in the place of the map, and steps left of the plan's faults.
type plain struct {
	room  int
	files []plainFile
	down  bool
	steps int
	plan  []disk.Fault // At: so many steps from now on
}

func plainName(s string) bool {
	for _, b := range []byte(s) {
		if b <= ' ' || b >= 0x7f {
			return false
		}
	}
	return s != "" && len(s) < 33
}

func (p *plain) at(name string) int {
	return slices.IndexFunc(p.files, func(f plainFile) bool { return f.name == name })
}

// meet: what stands ahead of each call's own errors.
func (p *plain) meet(names ...string) api.Errno {
	if p.down {
		return api.ErrCrash
	}
	for _, s := range names {
		if !plainName(s) {
			return api.ErrArg
		}
	}
	p.steps++
	met := 0
	for i := range p.plan {
		p.plan[i].At--
		if p.plan[i].At == 0 {
			met = p.plan[i].Kind
		}
	}
	p.down = met == disk.Crash
	return []api.Errno{api.OK, api.ErrIO, api.ErrFull, api.ErrCrash}[met]
}

func (p *plain) append(name string, b []byte) api.Errno {
	if err := p.meet(name); err != api.OK {
		return err
	}
	n := len(b)
	for _, f := range p.files {
		n += len(f.data)
	}
	switch i := p.at(name); {
	case i < 0 && len(p.files) == 16:
		return api.ErrBig
	case n > p.room:
		return api.ErrFull
	case i < 0:
		p.files = append(p.files, plainFile{name, string(b), 0})
	default:
		p.files[i].data += string(b)
	}
	return api.OK
}

// call: one of the calls that ask for a file that is there.
func (p *plain) call(what, name, other string, n int) ([]byte, api.Errno) {
	names := []string{name}
	if what == "rename" {
		names = append(names, other)
	}
	if err := p.meet(names...); err != api.OK {
		return nil, err
	}
	i := p.at(name)
	if i < 0 {
		return nil, api.ErrGone
	}
	f := &p.files[i]
	switch what {
	case "sync":
		f.safe = len(f.data)
	case "truncate":
		if n < 0 || n > len(f.data) {
			return nil, api.ErrArg
		}
		f.data, f.safe = f.data[:n], n
	case "rename":
		if f.safe != len(f.data) {
			return nil, api.ErrArg
		}
		f.name = ""
		p.files = slices.DeleteFunc(p.files, func(f plainFile) bool { return f.name == other })
		p.files[p.at("")].name = other
	case "remove":
		p.files = slices.Delete(p.files, i, i+1)
	case "read":
		return []byte(f.data), api.OK
	}
	return nil, api.OK
}

func (p *plain) arm(plan []disk.Fault) api.Errno {
	if len(plan) > 64 {
		return api.ErrArg
	}
	for i, f := range plan {
		if f.At <= 0 || !slices.Contains([]int{1, 2, 3}, f.Kind) {
			return api.ErrArg
		}
		for _, g := range plan[:i] {
			if f.At == g.At {
				return api.ErrArg
			}
		}
	}
	p.plan = slices.Clone(plan)
	return api.OK
}

func (p *plain) list() []string {
	var out []string
	for _, f := range p.files {
		out = append(out, f.name)
	}
	slices.SortFunc(out, func(a, b string) int { return bytes.Compare([]byte(a), []byte(b)) })
	return out
}

func (p *plain) boot(kept []int) {
	p.down, p.plan = false, nil
	for i, name := range p.list() {
		f := &p.files[p.at(name)]
		for len(f.data) > f.safe && (i >= len(kept) || len(f.data) > kept[i]) {
			f.data = f.data[:len(f.data)-1]
		}
		f.safe = len(f.data)
	}
}

func (p *plain) spoil(name string, at int, by byte) api.Errno {
	i := p.at(name)
	if i < 0 {
		return api.ErrGone
	}
	b := []byte(p.files[i].data)
	if at < 0 || at >= len(b) {
		return api.ErrArg
	}
	b[at] = b[at]&^by | by&^b[at]
	p.files[i].data = string(b)
	return api.OK
}

// names that are drawn: more than MaxFiles, and some that are none.
func drawName(r *rand.Rand) string {
	if r.IntN(40) == 0 {
		return []string{"", " ", "a\x7f", "\xc3\xa4", string(bytes.Repeat([]byte("n"), 33))}[r.IntN(5)]
	}
	return []string{"a", "b", "aa", "Z", "log.0", "log.10", "log.9", "!", "~", "m", "n", "o", "p", "q", "r", "s", "t", "u", string(bytes.Repeat([]byte("n"), 32))}[r.IntN(19)]
}

func drawPlan(r *rand.Rand) []disk.Fault {
	var plan []disk.Fault
	for range r.IntN(6) {
		plan = append(plan, disk.Fault{At: 1 + r.IntN(30), Kind: 1 + r.IntN(3)})
	}
	if r.IntN(10) == 0 {
		plan = append(plan, disk.Fault{At: r.IntN(3) - 1, Kind: r.IntN(6) - 1})
	}
	return plan
}

func drawKept(r *rand.Rand) []int {
	kept := make([]int, r.IntN(20))
	for i := range kept {
		kept[i] = []int{r.IntN(40), 0, -1, math.MinInt, math.MaxInt}[r.IntN(5)]
	}
	return kept
}

// both: one drawn call of the disk and of the chapter's words, as texts.
func both(r *rand.Rand, d *disk.Disk, p *plain) (string, string) {
	name, other, n := drawName(r), drawName(r), r.IntN(30)-2
	switch r.IntN(20) {
	case 0:
		plan := drawPlan(r)
		return fmt.Sprint("arm ", int(d.Arm(plan))), fmt.Sprint("arm ", int(p.arm(plan)))
	case 1:
		by := byte(r.Uint32())
		return fmt.Sprint("spoil ", int(d.Spoil(name, n, by))), fmt.Sprint("spoil ", int(p.spoil(name, n, by)))
	case 2, 3, 4:
		return fmt.Sprint("sync ", int(d.Sync(name))), fmt.Sprint("sync ", plainCall(p, "sync", name, "", 0))
	case 5:
		return fmt.Sprint("truncate ", int(d.Truncate(name, n))), fmt.Sprint("truncate ", plainCall(p, "truncate", name, "", n))
	case 6, 7:
		return fmt.Sprint("rename ", int(d.Rename(name, other))), fmt.Sprint("rename ", plainCall(p, "rename", name, other, 0))
	case 8:
		return fmt.Sprint("remove ", int(d.Remove(name))), fmt.Sprint("remove ", plainCall(p, "remove", name, "", 0))
	case 9, 10, 11:
		got, err := d.Read(name)
		want, wrong := p.call("read", name, "", 0)
		return fmt.Sprintf("read %d %x", int(err), got), fmt.Sprintf("read %d %x", int(wrong), want)
	case 12:
		if !p.down && r.IntN(3) > 0 {
			return "", ""
		}
		kept := drawKept(r)
		d.Boot(kept)
		p.boot(kept)
		return "boot", "boot"
	}
	b := make([]byte, max(0, n))
	for i := range b {
		b[i] = byte(r.Uint32())
	}
	return fmt.Sprint("append ", int(d.Append(name, b))), fmt.Sprint("append ", int(p.append(name, b)))
}

func plainCall(p *plain, what, name, other string, n int) int {
	_, err := p.call(what, name, other, n)
	return int(err)
}

// P701 to P704: drawn calls, one behind the other, answer what the chapter's words say, and the looks agree behind each.
func TestDrawn(t *testing.T) {
	r := rand.New(rand.NewPCG(7, 1))
	met := map[string]int{}
	for range 60 {
		room := r.IntN(400)
		d, err := disk.New(room)
		if err != api.OK {
			t.Fatal(err)
		}
		p := &plain{room: room}
		for step := range 600 {
			got, want := both(r, d, p)
			if got != want {
				t.Fatalf("call %d: %s, not %s", step, got, want)
			}
			met[want[:min(len(want), 11)]]++
			list := p.list()
			if p.down {
				list = nil
			}
			if !slices.Equal(d.List(), list) || d.Down() != p.down || d.Steps() != p.steps {
				t.Fatalf("looks behind call %d (%s): %q %v %d, not %q %v %d", step, want, d.List(), d.Down(), d.Steps(), list, p.down, p.steps)
			}
		}
	}
	for _, want := range []string{"append 0", "append 3", "append 30", "append 31", "append 32", "rename 0", "rename 1", "rename 33", "truncate 0", "truncate 1", "spoil 0", "spoil 1", "spoil 33", "arm 0", "arm 1", "boot"} {
		if met[want] == 0 {
			t.Errorf("no draw met %q: %v", want, met)
		}
	}
}
