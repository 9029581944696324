package signer_test

import (
	"fmt"
	"slices"
	"strings"
	"testing"

	"conclave/api"
	"conclave/disk"
	"conclave/signer"
)

// kinds: each fault, with its error.
func kinds() map[int]api.Errno {
	return map[int]api.Errno{disk.IO: api.ErrIO, disk.Full: api.ErrFull, disk.Crash: api.ErrCrash}
}

// scene: a signer on a disk, with what it signed last; the next record takes so many steps, and stands in a file behind so many synced bytes.
type scene struct {
	what       string
	d          *disk.Disk
	s          *signer.Signer
	last       signer.Mark
	text, note string
	steps      int
	safe       int
}

// scenes: each made anew: before a first record, before one in the same file, by who signed the last one or by who found it, in a new file with one to trim, with two, and in a file that a crash left empty.
func scenes() []func(t *testing.T) scene {
	return []func(t *testing.T) scene{first, same, sameFound, next, nextFound, two, left}
}

// longNote: a record with it fills its file.
func longNote() string { return strings.Repeat("n", 4096) }

func first(t *testing.T) scene {
	d := room(t)
	return scene{what: "the first", d: d, s: opened(t, "the first", d), steps: 2}
}

func same(t *testing.T) scene {
	x := scene{what: "in the same file", d: room(t), last: mark(1, 1, 2), text: "old", note: "n", steps: 2}
	x.s = opened(t, x.what, x.d)
	signs(t, x.what, x.s, mark(1, 1, 1), "older", "")
	signs(t, x.what, x.s, x.last, x.text, x.note)
	b, _ := x.d.Read("sign.0")
	x.safe = len(b)
	return x
}

func next(t *testing.T) scene {
	x := scene{what: "in the next file", d: room(t), last: mark(1, 1, 1), text: "old", note: longNote(), steps: 3}
	x.s = opened(t, x.what, x.d)
	signs(t, x.what, x.s, x.last, x.text, x.note)
	return x
}

func sameFound(t *testing.T) scene { return found(t, same(t)) }
func nextFound(t *testing.T) scene { return found(t, next(t)) }

// found: the same, but the signer is opened anew.
func found(t *testing.T, x scene) scene {
	x.what += ", found"
	x.s = opened(t, x.what, x.d)
	return x
}

func two(t *testing.T) scene {
	x := next(t)
	x.what, x.steps, x.last = "with two files to trim", 4, mark(1, 1, 2)
	x.d.Arm([]disk.Fault{{At: 3, Kind: disk.IO}})
	signs(t, x.what, x.s, x.last, x.text, x.note)
	x.s = opened(t, x.what, x.d)
	return x
}

func left(t *testing.T) scene {
	x := next(t)
	x.what = "in a file that is left empty"
	x.d.Arm([]disk.Fault{{At: 2, Kind: disk.Crash}})
	tells(t, x.what, x.s, mark(1, 1, 3), "lost", "", api.ErrCrash)
	x.d.Boot([]int{0, 9})
	x.s = opened(t, x.what, x.d)
	return x
}

// What each scene signs next.
const (
	nextText = "new"
	nextNote = "note"
)

func nextMark() signer.Mark { return mark(2, 0, 1) }

// halted: a signer that has halted tells ErrHalt, whatever it is asked, without a step; its looks stay.
func halted(t *testing.T, what string, x scene, m signer.Mark, note string) {
	t.Helper()
	steps(t, what, x.d, 0, func() {
		for range 2 {
			for _, m := range append(wrong(), x.last, nextMark(), mark(1, 0, 1), mark(3, 0, 1), mark(1<<64-1, mostRound, 3)) {
				for _, text := range []string{x.text, nextText, ""} {
					tells(t, what, x.s, m, text, "", api.ErrHalt)
				}
			}
			tells(t, what, x.s, mark(3, 0, 1), strings.Repeat("b", 70000), "", api.ErrHalt)
			stands(t, what, x.s, m, note, true)
		}
	})
}

// goes: a signer that was opened goes on from the record that is there, the new one or not.
func goes(t *testing.T, what string, s *signer.Signer, x scene, there bool) {
	t.Helper()
	if there {
		stands(t, what, s, nextMark(), nextNote, false)
		tells(t, what, s, nextMark(), "another", "", api.ErrSigned)
		tells(t, what, s, mark(1, mostRound, 3), nextText, "", api.ErrSigned)
		signs(t, what, s, nextMark(), nextText, "")
	} else {
		stands(t, what, s, x.last, x.note, false)
		if x.last.Height > 0 {
			tells(t, what, s, x.last, "another", "", api.ErrSigned)
			signs(t, what, s, x.last, x.text, "")
		}
		signs(t, what, s, nextMark(), "another", nextNote)
	}
	signs(t, what, s, mark(2, 0, 2), "on", "")
	if names := x.d.List(); len(names) != 1 {
		t.Errorf("%s: files %v", what, names)
	}
}

// P1602: each fault at each step that Sign takes: what is told, whether it has halted, and what a signer finds that is opened without a crash.
func TestFaults(t *testing.T) {
	for _, scene := range scenes() {
		for at := 1; at <= 5; at++ {
			for kind, want := range kinds() {
				x := scene(t)
				what := fmt.Sprint(x.what, ", fault ", kind, " at ", at)
				x.d.Arm([]disk.Fault{{At: at, Kind: kind}})
				steps(t, what, x.d, min(at, x.steps), func() {
					if at > 2 {
						signs(t, what, x.s, nextMark(), nextText, nextNote)
					} else {
						tells(t, what, x.s, nextMark(), nextText, nextNote, want)
					}
				})
				if at > x.steps {
					stands(t, what, x.s, nextMark(), nextNote, false)
					x.d.Arm(nil)
					goes(t, what, x.s, x, true)
					continue
				}
				m, note := x.last, x.note
				if at > 2 {
					m, note = nextMark(), nextNote
				}
				halted(t, what, x, m, note)
				x.d.Arm(nil)
				halted(t, what+", well again", x, m, note)
				if kind == disk.Crash {
					refused(t, what, x.d, seed(1), api.ErrCrash)
					continue
				}
				goes(t, what+", opened", opened(t, what, x.d), x, at > 1)
			}
		}
	}
}

// frameSize: how many bytes the next record takes in its file.
func frameSize() int { return len(framed(record(nextMark(), nextText, nextNote))) }

// P1602, P1604: a crash at each step, or behind another fault there, with each number of bytes kept of what was not synced.
func TestCrashes(t *testing.T) {
	for _, scene := range scenes() {
		for at := 1; at <= scene(t).steps; at++ {
			for kind := range kinds() {
				for kept := 0; kept <= frameSize()+1; kept++ {
					if (at != 2 || kind != disk.Crash) && kept%40 > 0 && kept < frameSize()-1 {
						continue // all is synced there, or as it is behind the other kinds
					}
					x := scene(t)
					what := fmt.Sprint(x.what, ", fault ", kind, " at ", at, ", kept ", kept)
					x.d.Arm([]disk.Fault{{At: at, Kind: kind}})
					x.s.Sign(nextMark(), []byte(nextText), []byte(nextNote))
					x.d.Boot(slices.Repeat([]int{x.safe + kept}, api.MaxFiles))
					if at == 2 && kept%9 == 0 {
						halted(t, what+", booted", x, x.last, x.note)
					}
					s := opened(t, what, x.d)
					goes(t, what, s, x, at > 2 || at == 2 && kept >= frameSize())
				}
			}
		}
	}
}

// P1602, P1604: a fault as the record that Open found is synced, ahead of telling its signature again: it is the disk's error, and the signer has halted.
func TestFoundFaults(t *testing.T) {
	for _, scene := range scenes() {
		for kind, want := range kinds() {
			x := scene(t)
			if x.last == (signer.Mark{}) {
				continue
			}
			x = found(t, x)
			what := fmt.Sprint(x.what, ", fault ", kind)
			x.d.Arm([]disk.Fault{{At: 1, Kind: kind}})
			tells(t, what, x.s, x.last, "another", "", api.ErrSigned)
			steps(t, what, x.d, 1, func() { tells(t, what, x.s, x.last, x.text, x.note, want) })
			halted(t, what, x, x.last, x.note)
			x.d.Boot(nil)
			halted(t, what+", booted", x, x.last, x.note)
			goes(t, what+", opened", opened(t, what, x.d), x, false)
		}
	}
}

// P1602: a disk that has no room, and one that has no place for a file: these are the disk's errors, too.
func TestNoRoom(t *testing.T) {
	size := len(framed(record(mark(1, 0, 1), "a", "")))
	for room := range 2 * size {
		d, err := disk.New(room)
		is(t, "New", err, api.OK)
		x := scene{d: d, s: opened(t, "no room", d)}
		what := fmt.Sprint("room ", room)
		if room < size {
			tells(t, what, x.s, mark(1, 0, 1), "a", "", api.ErrFull)
			halted(t, what, x, signer.Mark{}, "")
			stands(t, what+", opened again", opened(t, what, d), signer.Mark{}, "", false)
			continue
		}
		signs(t, what, x.s, mark(1, 0, 1), "a", "")
		x.last, x.text = mark(1, 0, 1), "a"
		tells(t, what, x.s, mark(1, 0, 2), "a", "", api.ErrFull)
		halted(t, what, x, x.last, "")
		stands(t, what+", opened again", opened(t, what, d), x.last, "", false)
	}
	d := room(t)
	for n := range api.MaxFiles {
		is(t, "Append", d.Append(fmt.Sprint("file", n), nil), api.OK)
	}
	x := scene{d: d, s: opened(t, "no file", d)}
	tells(t, "no file", x.s, mark(1, 0, 1), "a", "", api.ErrBig)
	halted(t, "no file", x, signer.Mark{}, "")
	is(t, "Remove", d.Remove("file3"), api.OK)
	halted(t, "a file again", x, signer.Mark{}, "")
	signs(t, "a file again", opened(t, "a file again", d), mark(1, 0, 1), "a", "")
}

// P1602: steps that others take on the disk are none of a signer's: it goes on behind their faults and behind a crash that it did not meet.
func TestOthersFaults(t *testing.T) {
	d := room(t)
	s := opened(t, "others", d)
	signs(t, "at first", s, mark(1, 0, 1), "a", "")
	d.Arm([]disk.Fault{{At: 1, Kind: disk.IO}, {At: 2, Kind: disk.Crash}})
	is(t, "another's", d.Append("chain.0", []byte("b")), api.ErrIO)
	is(t, "another's", d.Append("chain.0", []byte("b")), api.ErrCrash)
	stands(t, "down", s, mark(1, 0, 1), "", false)
	signs(t, "down, again", s, mark(1, 0, 1), "a", "")
	d.Boot(nil)
	signs(t, "booted", s, mark(1, 0, 2), "b", "")
	has(t, "booted", d, map[string][]string{"sign.0": {record(mark(1, 0, 1), "a", ""), record(mark(1, 0, 2), "b", "")}})
}
