package gas_test

import (
	"testing"

	"conclave/api"
	"conclave/gas"
)

// P1203: the chapter's examples.
func TestSstoreExamples(t *testing.T) {
	zero, one := api.Word{}, api.Word{1}
	if cost, refund := gas.Sstore(zero, zero, one, false); cost != 22100 || refund != 0 {
		t.Errorf("Sstore of 0, 0, 1, not warm: %d, %d", cost, refund)
	}
	if cost, refund := gas.Sstore(one, one, zero, true); cost != 2900 || refund != 4800 {
		t.Errorf("Sstore of 1, 1, 0, warm: %d, %d", cost, refund)
	}
}

// letters: three words that are not 0 and differ, each in one limb alone or in all.
func letters() [][3]api.Word {
	return [][3]api.Word{
		{{1}, {2}, {3}},
		{{1}, {0, 1}, {0, 0, 1}},
		{{0, 0, 0, 1}, {1}, {0, 1}},
		{{0, 0, 1}, {0, 0, 0, 1}, {1}},
		{{0, 1}, {0, 0, 1}, {0, 0, 0, 1}},
		{ones, {full}, {0, 0, 0, full}},
		{{5, 5, 5, 5}, {4, 5, 5, 5}, {5, 5, 5, 4}},
		{{5, 5, 5, 5}, {5, 4, 5, 5}, {5, 5, 4, 5}},
	}
}

// P1203: all ways in which first, now and next are or are not 0 (0) and are or are not one another (a, b, c).
func TestSstoreByNumbers(t *testing.T) {
	rows := []struct {
		way    string
		cost   uint64
		refund int64
	}{
		{"000", 100, 0}, {"0aa", 100, 0}, {"a00", 100, 0}, {"aaa", 100, 0}, {"abb", 100, 0},
		{"00a", 20000, 0}, {"aa0", 2900, 4800}, {"aab", 2900, 0},
		{"0a0", 100, 19900}, {"0ab", 100, 0},
		{"a0a", 100, -2000}, {"a0b", 100, -4800}, {"ab0", 100, 4800}, {"aba", 100, 2800}, {"abc", 100, 0},
	}
	for _, abc := range letters() {
		named := map[byte]api.Word{'0': {}, 'a': abc[0], 'b': abc[1], 'c': abc[2]}
		for _, r := range rows {
			first, now, next := named[r.way[0]], named[r.way[1]], named[r.way[2]]
			if cost, refund := gas.Sstore(first, now, next, true); cost != r.cost || refund != r.refund {
				t.Errorf("Sstore of %s (%x), warm: %d, %d, not %d, %d", r.way, abc, cost, refund, r.cost, r.refund)
			}
			if cost, refund := gas.Sstore(first, now, next, false); cost != r.cost+2100 || refund != r.refund {
				t.Errorf("Sstore of %s (%x), not warm: %d, %d, not %d, %d", r.way, abc, cost, refund, r.cost+2100, r.refund)
			}
		}
	}
}

// P1203: all rows of three of some words are what the chapter's words give.
func TestSstore(t *testing.T) {
	ws := []api.Word{{}}
	for _, abc := range letters() {
		ws = append(ws, abc[:]...)
	}
	for _, first := range ws {
		for _, now := range ws {
			for _, next := range ws {
				for _, warm := range []bool{false, true} {
					cost, refund := gas.Sstore(first, now, next, warm)
					wantCost, wantRefund := plainSstore(first, now, next, warm)
					same(t, cost, wantCost, "Sstore", first, now, next, warm)
					if small(refund).Cmp(wantRefund) != 0 {
						t.Fatalf("Sstore of %x, %x, %x: refund %d, not %v", first, now, next, refund, wantRefund)
					}
				}
			}
		}
	}
}

// walk: all rows of up to so many stores from now on; back is told, at each place where the slot is what it was at first, what was taken and what was given back.
func walk(first, now api.Word, warm bool, taken, given int64, steps int, back func(taken, given int64)) {
	if now == first {
		back(taken, given)
	}
	if steps == 0 {
		return
	}
	for _, next := range []api.Word{first, {}, {1}, {0, 0, 0, 1}} {
		cost, refund := gas.Sstore(first, now, next, warm)
		walk(first, next, true, taken+int64(cost), given+refund, steps-1, back)
	}
}

// P1205: a slot that goes from its first value through others and back gives back no more than it took.
func TestSstoreThereAndBack(t *testing.T) {
	for _, first := range []api.Word{{}, {1}, {2}, {3}, {0, 0, 0, 1}} {
		for _, warm := range []bool{false, true} {
			walk(first, first, warm, 0, 0, 6, func(taken, given int64) {
				if given > taken {
					t.Fatalf("from %x and back: %d is taken, %d is given back", first, taken, given)
				}
				if given < 0 {
					t.Fatalf("from %x and back: %d is given back", first, given)
				}
			})
		}
	}
}
