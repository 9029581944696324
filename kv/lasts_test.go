package kv_test

import (
	"fmt"
	"math/rand/v2"
	"slices"
	"testing"

	"conclave/api"
	"conclave/disk"
	"conclave/kv"
)

// folded: what a store has behind the first of some batches, for each number of them.
func folded(batches []string) []string {
	keys := map[string]string{}
	out := []string{""}
	for _, b := range batches {
		for _, c := range list(b) {
			if c.Gone {
				delete(keys, string(c.Key))
			} else {
				keys[string(c.Key)] = string(c.Val)
			}
		}
		var all []kv.Change
		for key, val := range keys {
			all = append(all, put(key, val))
		}
		slices.SortFunc(all, func(a, b kv.Change) int { return slices.Compare(a.Key, b.Key) })
		out = append(out, told(all))
	}
	return out
}

// run: calls of a store till one fails, "!" for Snap and else a batch; how many batches were OK, and how many were tried.
func run(s *kv.Store, calls []string) (int, int, api.Errno) {
	fine, tried := 0, 0
	for _, c := range calls {
		if c == "!" {
			if err := s.Snap(); err != api.OK {
				return fine, tried, err
			}
			continue
		}
		tried++
		if err := s.Put(list(c)); err != api.OK {
			return fine, tried, err
		}
		fine++
	}
	return fine, tried, api.OK
}

// behind: a store has what some of the batches give, from the first on, no fewer than fine, no more than tried; how many.
func behind(t *testing.T, what string, s *kv.Store, want []string, fine, tried int) int {
	t.Helper()
	got := told(s.Range(nil, nil))
	for n := tried; n >= fine; n-- {
		if want[n] == got {
			return n
		}
	}
	t.Fatalf("%s: %q, not as behind %d to %d batches: %q", what, got, fine, tried, want[fine:tried+1])
	return 0
}

// calls, batches: each batch leaves a store that no other leaves.
func calls() ([]string, []string) {
	c := []string{"a=1 b=1", "n=2 a=2", "n=3 -b", "!", "n=4 c=4 -a", "n=5", "!", "!", "n=6 b=6 c=66", "n=7 -c d=7", "n=8 a=8", "!", "n=9 -n n=9"}
	return c, slices.DeleteFunc(slices.Clone(c), func(s string) bool { return s == "!" })
}

// P906: a fault at each step, then a crash, with each number of bytes kept of the files.
func TestLasts(t *testing.T) {
	script, batches := calls()
	want := folded(batches)
	for _, most := range []int{1, 30, 45, 80, 1000} {
		for kind := range kinds() {
			for at, ended := 1, false; !ended; at++ {
				for kept := 0; kept <= 120; kept++ {
					d := room(t)
					s := opened(t, d, "db", most)
					d.Arm([]disk.Fault{{At: at, Kind: kind}})
					fine, tried, err := run(s, script)
					ended = err == api.OK
					d.Boot(slices.Repeat([]int{kept}, api.MaxFiles))
					what := fmt.Sprint("most ", most, ", fault ", kind, " at ", at, ", kept ", kept)
					s = opened(t, d, "db", most)
					n := behind(t, what, s, want, fine, tried)
					left := slices.Clone(batches[n:])
					if more, _, err := run(s, left); err != api.OK || more != len(left) {
						t.Fatalf("%s: it does not go on: %d", what, err)
					}
					has(t, what, s, want[len(want)-1])
					d.Boot(nil)
					has(t, what+", once more", opened(t, d, "db", most), want[len(want)-1])
				}
			}
		}
	}
}

// P906: a crash that keeps all bytes of the record that was being saved has that batch; one that keeps one fewer has not.
func TestLastsWhole(t *testing.T) {
	for _, most := range []int{1, 1000} {
		for size := 0; size <= 23; size++ {
			d := room(t)
			s := opened(t, d, "db", most)
			puts(t, s, "a=1")
			d.Arm([]disk.Fault{{At: 2, Kind: disk.Crash}})
			is(t, "Put", s.Put(list("b=22")), api.ErrCrash)
			kept := []int{21 + size}
			if most == 1 {
				kept = []int{0, size}
			}
			d.Boot(kept)
			want := "a=1"
			if size >= 22 {
				want = "a=1 b=22"
			}
			has(t, fmt.Sprint("kept ", size), opened(t, d, "db", most), want)
		}
	}
}

// P906: drawn batches and snapshots through many crashes, one behind the other, with bytes kept by chance.
func TestLastsDrawn(t *testing.T) {
	r := rand.New(rand.NewPCG(9, 6))
	more, fewer := 0, 0
	for range 150 {
		d := room(t)
		most := 1 + r.IntN(300)
		s := opened(t, d, "db", most)
		var batches []string // those that the store has
		for round := range 12 {
			d.Arm([]disk.Fault{{At: 1 + r.IntN(30), Kind: disk.Crash}})
			var script, puts []string
			for i := range 12 {
				b := fmt.Sprint("n=", round, ".", i)
				for range r.IntN(4) {
					b += fmt.Sprint([]string{" ", " -"}[r.IntN(2)], string(rune('a'+r.IntN(5))))
				}
				script, puts = append(script, b), append(puts, b)
				if r.IntN(4) == 0 || i%5 == 4 { // before MaxFiles files are there
					script = append(script, "!")
				}
			}
			fine, tried, err := run(s, script)
			if err != api.ErrCrash && err != api.OK {
				t.Fatalf("error %d", err)
			}
			kept := make([]int, api.MaxFiles)
			for i := range kept {
				kept[i] = r.IntN(400)
			}
			d.Boot(kept)
			s = opened(t, d, "db", most)
			all := append(slices.Clone(batches), puts[:tried]...)
			n := behind(t, fmt.Sprint("round ", round), s, folded(all), len(batches)+fine, len(all))
			if fine < tried && n == len(all) {
				more++
			} else if fine < tried {
				fewer++
			}
			batches = all[:n]
			if len(d.List()) > 6 {
				is(t, "Snap", s.Snap(), api.OK)
			}
		}
	}
	if more < 20 || fewer < 20 {
		t.Errorf("the batch that was being saved: there %d times, not there %d times", more, fewer)
	}
}
