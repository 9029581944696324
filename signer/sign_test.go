package signer_test

import (
	"fmt"
	"strings"
	"testing"

	"conclave/api"
	"conclave/disk"
	"conclave/signer"
)

// wrong: marks that can't be, each wrong in one number or in more.
func wrong() []signer.Mark {
	out := []signer.Mark{{}, mark(0, 0, 1), mark(0, mostRound, 3), mark(0, -1, 0)}
	for _, h := range []uint64{1, 5, 1 << 63, 1<<64 - 1} {
		for _, r := range []int{-1, -2, leastInt, leastInt + 1, mostRound + 1, mostRound + 2, 1 << 32, 1<<32 + 1, mostInt} {
			out = append(out, mark(h, r, 1), mark(h, r, 3))
		}
		for _, s := range []int{0, 4, 5, -1, -2, -3, 256 + 1, 1<<32 + 1, mostInt, leastInt, leastInt + 1} {
			out = append(out, mark(h, 0, s), mark(h, mostRound, s))
		}
		out = append(out, mark(h, -1, 0), mark(h, mostRound+1, 4))
	}
	return out
}

// P1602: marks that can't be, ahead of any signature and behind one; no step, nothing changes.
func TestSignWrong(t *testing.T) {
	d := room(t)
	s := opened(t, "new", d)
	for _, m := range wrong() {
		steps(t, "new", d, 0, func() { tells(t, "new", s, m, "a", "", api.ErrArg) })
	}
	stands(t, "new", s, signer.Mark{}, "", false)
	signs(t, "Sign", s, mark(5, 0, 1), "a", "note")
	for _, m := range wrong() {
		steps(t, "behind one", d, 0, func() { tells(t, "behind one", s, m, "a", "", api.ErrArg) })
	}
	stands(t, "behind one", s, mark(5, 0, 1), "note", false)
}

// P1602: the edges of marks that can be, each alone on a disk.
func TestSignEdges(t *testing.T) {
	for _, h := range []uint64{1, 127, 128, 1 << 32, 1<<63 - 1, 1 << 63, 1<<64 - 1} {
		for _, r := range []int{0, 1, 127, 128, 255, 256, mostRound - 1, mostRound} {
			for step := 1; step <= 3; step++ {
				d, m := room(t), mark(h, r, step)
				s := opened(t, "an edge", d)
				signs(t, "an edge", s, m, "a", "n")
				has(t, fmt.Sprint(m), d, map[string][]string{"sign.0": {record(m, "a", "n")}})
			}
		}
	}
}

// P1602: the mark is less than the last one, in each of its numbers, be it ever so great in those behind.
func TestSignLess(t *testing.T) {
	d, last := room(t), mark(5, 5, 2)
	s := opened(t, "less", d)
	signs(t, "the last", s, last, "a", "note")
	for _, s := range []*signer.Signer{s, opened(t, "opened again", d)} {
		for _, m := range []signer.Mark{mark(5, 5, 1), mark(5, 4, 1), mark(5, 4, 2), mark(5, 4, 3), mark(5, 0, 3), mark(4, 5, 2), mark(4, 5, 1), mark(4, 5, 3), mark(4, 6, 3), mark(4, mostRound, 3), mark(1, 0, 1), mark(1, mostRound, 3)} {
			for _, text := range []string{"a", "b", ""} {
				steps(t, "less", d, 0, func() { tells(t, "less", s, m, text, "note", api.ErrSigned) })
			}
		}
		stands(t, "less", s, last, "note", false)
	}
	has(t, "less", d, map[string][]string{"sign.0": {record(last, "a", "note")}})
	for _, m := range []signer.Mark{mark(5, 5, 3), mark(5, 6, 1), mark(5, 7, 3), mark(6, 0, 1), mark(7, 0, 2), mark(9, 9, 1)} {
		signs(t, "more", s, m, "a", "")
		stands(t, "more", s, m, "", false)
	}
}

// P1602: the same mark with the same text, whatever the note: the same signature, no step; with another text: ErrSigned.
func TestSignSame(t *testing.T) {
	for _, text := range []string{"", "a", "\x00", "text", strings.Repeat("long", 300)} {
		d, m := room(t), mark(2, 1, 3)
		s := opened(t, "same", d)
		signs(t, "at first", s, m, text, "note")
		for _, note := range []string{"note", "", "another", strings.Repeat("n", 70000)} {
			steps(t, "again", d, 0, func() { signs(t, "again", s, m, text, note) })
			stands(t, "again", s, m, "note", false)
		}
		for _, other := range []string{text + "\x00", "\x00" + text, text + text + "b", "another", strings.Repeat("a", 70000)} {
			steps(t, "another", d, 0, func() { tells(t, "another", s, m, other, "note", api.ErrSigned) })
		}
		if text != "" {
			tells(t, "cut", s, m, text[:len(text)-1], "note", api.ErrSigned)
			tells(t, "nothing", s, m, "", "note", api.ErrSigned)
		}
		stands(t, "same", s, m, "note", false)
		has(t, "same", d, map[string][]string{"sign.0": {record(m, text, "note")}})
	}
}

// P1602: the same mark with the same text behind Open: the signature that stands in the record; the record is synced ahead of telling it, once.
func TestSignFound(t *testing.T) {
	d, m := room(t), mark(2, 1, 3)
	signs(t, "at first", opened(t, "new", d), m, "text", "note")
	d.Boot(nil)
	s := opened(t, "found", d)
	tells(t, "another text", s, m, "texts", "note", api.ErrSigned)
	steps(t, "found", d, 1, func() { signs(t, "found", s, m, "text", "another") })
	steps(t, "found, again", d, 0, func() { signs(t, "found, again", s, m, "text", "") })
	stands(t, "found", s, m, "note", false)
	has(t, "found", d, map[string][]string{"sign.0": {record(m, "text", "note")}})
	s = opened(t, "found, and one more", d)
	steps(t, "one more", d, 2, func() { signs(t, "one more", s, mark(2, 2, 1), "more", "") })
	steps(t, "one more, again", d, 0, func() { signs(t, "one more, again", s, mark(2, 2, 1), "more", "") })
}

// P1602: the record is what the words say, byte by byte, of marks, texts and notes that rise in length.
func TestSignRecord(t *testing.T) {
	d := room(t)
	s := opened(t, "records", d)
	var records []string
	for n, text := range []string{"", "a", "\x7f", "\x80", "dog", strings.Repeat("b", 55), strings.Repeat("b", 56), strings.Repeat("b", 255), strings.Repeat("b", 256)} {
		for i, note := range []string{"", "\x00", "\x80", strings.Repeat("n", 56)} {
			m := mark(uint64(1)<<(7*n), 1<<(3*i+n)-1, 1+i%3)
			signs(t, "Sign", s, m, text, note)
			records = append(records, record(m, text, note))
		}
	}
	if len(framed(records...)) > 2*4096 {
		t.Fatalf("%d bytes of records", len(framed(records...)))
	}
	first := 0 // the number of the first record that is left
	for i := range records {
		if len(framed(records[:i]...)) >= 4096 && first == 0 {
			first = i
		}
	}
	has(t, "records", d, map[string][]string{fmt.Sprint("sign.", first): records[first:]})
}

// sized: a note with which the record of a text has so many bytes.
func sized(t *testing.T, m signer.Mark, text string, size int) string {
	t.Helper()
	for n := max(0, size-len(text)-100); n <= size; n++ {
		note := strings.Repeat("n", n)
		if len(record(m, text, note)) == size {
			return note
		}
	}
	t.Fatalf("no record of %d bytes", size)
	return ""
}

// P1602: records of MaxRecord bytes, and of one more, which is no step and changes nothing; of texts, of notes, of both.
func TestSignBig(t *testing.T) {
	for _, m := range []signer.Mark{mark(2, 0, 1), mark(1<<64-1, mostRound, 3)} {
		for _, text := range []string{"", "a", strings.Repeat("t", 30000), strings.Repeat("t", 65400)} {
			d := room(t)
			s := opened(t, "great", d)
			signs(t, "one ahead", s, mark(1, 0, 1), "a", "first")
			note := sized(t, m, text, api.MaxRecord)
			for _, more := range []string{note + "n", note + "nn", note + strings.Repeat("n", 1<<20)} {
				steps(t, "too great a note", d, 0, func() { tells(t, "too great a note", s, m, text, more, api.ErrBig) })
			}
			steps(t, "too great a text", d, 0, func() { tells(t, "too great a text", s, m, text+"tt", note, api.ErrBig) })
			stands(t, "too great", s, mark(1, 0, 1), "first", false)
			has(t, "too great", d, map[string][]string{"sign.0": {record(mark(1, 0, 1), "a", "first")}})
			signs(t, "the greatest", s, m, text, note)
			stands(t, "the greatest", s, m, note, false)
			stands(t, "the greatest, opened again", opened(t, "the greatest", d), m, note, false)
			signs(t, "the greatest again", s, m, text, note+"n")
		}
	}
}

// P1602: a text alone that makes the record as great as may be, and one byte more.
func TestSignBigText(t *testing.T) {
	d, m := room(t), mark(1, 0, 1)
	s := opened(t, "a great text", d)
	size := 0
	for n := api.MaxRecord; size == 0; n-- {
		if len(record(m, strings.Repeat("t", n), "")) <= api.MaxRecord {
			size = n
		}
	}
	tells(t, "one more", s, m, strings.Repeat("t", size+1), "", api.ErrBig)
	tells(t, "a note of one byte that is its own encoding stands in the place of none", s, m, strings.Repeat("t", size+1), "n", api.ErrBig)
	tells(t, "a note of two bytes", s, m, strings.Repeat("t", size), "nn", api.ErrBig)
	tells(t, "many more", s, m, strings.Repeat("t", 1<<22), "", api.ErrBig)
	stands(t, "too great", s, signer.Mark{}, "", false)
	signs(t, "the greatest", s, m, strings.Repeat("t", size), "n")
	stands(t, "the greatest", s, m, "n", false)
	stands(t, "opened again", opened(t, "opened again", d), m, "n", false)
}

// P1602: which error comes first wherever two of them come together.
func TestSignOrder(t *testing.T) {
	big := strings.Repeat("b", 70000)
	last := mark(5, 5, 2)
	less, more := mark(5, 5, 1), mark(5, 5, 3)
	cases := []struct {
		what       string
		m          signer.Mark
		text, note string
		want       api.Errno
	}{
		{"can't be and less", mark(0, 9, 2), "a", "", api.ErrArg},
		{"can't be and less by its round", mark(5, -1, 2), "a", "", api.ErrArg},
		{"can't be and less by its step", mark(5, 5, 0), "a", "", api.ErrArg},
		{"can't be and too much", mark(9, 9, 4), big, big, api.ErrArg},
		{"can't be, less and too much", mark(0, 0, 0), big, big, api.ErrArg},
		{"less and too much", less, big, "", api.ErrSigned},
		{"less with too much of a note", less, "last", big, api.ErrSigned},
		{"less, the same text", less, "last", "note", api.ErrSigned},
		{"the same with a text that is too much", last, big, "", api.ErrSigned},
		{"the same with another text and too much of a note", last, "b", big, api.ErrSigned},
		{"too much", more, big, "", api.ErrBig},
		{"too much of a note", more, "last", big, api.ErrBig},
	}
	d := room(t)
	s := opened(t, "order", d)
	signs(t, "the last", s, last, "last", "note")
	found := opened(t, "order", d)
	ask := func(how string, s *signer.Signer) {
		for _, c := range cases {
			steps(t, c.what+how, d, 0, func() { tells(t, c.what+how, s, c.m, c.text, c.note, c.want) })
		}
		stands(t, "order"+how, s, last, "note", false)
	}
	ask("", s)
	d.Arm([]disk.Fault{{At: 1, Kind: disk.IO}})
	ask(", a fault ahead", s)
	ask(", found, a fault ahead", found)
	d.Arm([]disk.Fault{{At: 1, Kind: disk.Crash}})
	d.Sync("sign.0")
	ask(", down", s)
	ask(", found, down", found)
	signs(t, "the same with too much of a note, down", s, last, "last", big)
	tells(t, "down", s, more, "last", "note", api.ErrCrash)
	for _, c := range cases {
		tells(t, c.what+", halted", s, c.m, c.text, c.note, api.ErrHalt)
	}
	tells(t, "the same, halted", s, last, "last", "note", api.ErrHalt)
	tells(t, "more, halted", s, more, "last", "note", api.ErrHalt)
}

// P1602: the log holds the last file alone: a file with 4096 bytes is the last one no more at the next record, and is gone behind it.
func TestSignTrims(t *testing.T) {
	const head = 12 // of a frame
	for _, c := range []struct {
		size, stepsNext int
		next            bool
	}{{4095, 2, false}, {4096, 3, true}, {4097, 3, true}, {head + api.MaxRecord, 3, true}} {
		d := room(t)
		s := opened(t, "trims", d)
		m := mark(1, 0, 1)
		note := sized(t, m, "a", c.size-head)
		signs(t, "the first", s, m, "a", note)
		has(t, "the first", d, map[string][]string{"sign.0": {record(m, "a", note)}})
		steps(t, fmt.Sprint("next to ", c.size), d, c.stepsNext, func() { signs(t, "the next", s, mark(1, 0, 2), "b", "n") })
		next := record(mark(1, 0, 2), "b", "n")
		if c.next {
			has(t, "the next", d, map[string][]string{"sign.1": {next}})
		} else {
			has(t, "the next", d, map[string][]string{"sign.0": {record(m, "a", note), next}})
			steps(t, "one more", d, 3, func() { signs(t, "one more", s, mark(1, 0, 3), "c", "") })
			has(t, "one more", d, map[string][]string{"sign.2": {record(mark(1, 0, 3), "c", "")}})
		}
	}
}

// P1602: over many records the disk holds no more than one file of the log, with the last record at its end.
func TestSignTrimsOn(t *testing.T) {
	d := room(t)
	s := opened(t, "many", d)
	var all []string
	begin := 0
	for n := range 120 {
		m, text, note := mark(uint64(1+n/9), n/3%3, 1+n%3), fmt.Sprint("text ", n), strings.Repeat("n", n*137%2500)
		if len(framed(all[begin:]...)) >= 4096 {
			begin = n
		}
		signs(t, "many", s, m, text, note)
		all = append(all, record(m, text, note))
		has(t, fmt.Sprint("behind ", n), d, map[string][]string{fmt.Sprint("sign.", begin): all[begin:]})
		if n%10 == 7 {
			s = opened(t, "many", d)
			stands(t, "opened again", s, m, note, false)
		}
	}
	if begin < 20 {
		t.Errorf("the last file begins at %d: too few files", begin)
	}
}
