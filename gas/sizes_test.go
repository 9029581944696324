package gas_test

import (
	"math"
	"math/big"
	"testing"

	"conclave/gas"
)

// sizes: where words, the greatest size and uint64 turn, and drawn ones.
func sizes() []uint64 {
	ns := []uint64{0, 1, 31, 32, 33, 63, 64, 65, 703, 704, 705, 736, 737, 32768, 65535, 65536, 65537,
		1<<32 - 33, 1<<32 - 32, 1<<32 - 31, 1<<32 - 1, 1 << 32, 1<<32 + 1, 1<<32 + 32, 1 << 33,
		1 << 62, 1 << 63, full - 32, full - 31, full - 30, full - 1, full}
	for n := range uint64(2000) {
		ns = append(ns, n)
	}
	r := source()
	for range 2000 {
		ns = append(ns, drawn(r), r.Uint64N(1<<32+100))
	}
	return ns
}

// sizeCost: a call that takes a size alone, and the words said over again.
type sizeCost struct {
	name  string
	got   func(n uint64) uint64
	plain func(n uint64) *big.Int
}

// sizeCosts: the calls of P1201, with each choice of what else they take.
func sizeCosts() []sizeCost {
	cs := []sizeCost{
		{"Words", gas.Words, plainWords},
		{"Memory", gas.Memory, plainMemory},
		{"Hash", gas.Hash, plainHash},
		{"Copy", gas.Copy, plainCopy},
	}
	for _, hashed := range []bool{false, true} {
		cs = append(cs, sizeCost{"Create",
			func(n uint64) uint64 { return gas.Create(n, hashed) },
			func(n uint64) *big.Int { return plainCreate(n, hashed) }})
	}
	for _, topics := range []int{math.MinInt, -1000, -1, 0, 1, 2, 3, 4, 5, 6, 1000, math.MaxInt} {
		cs = append(cs, sizeCost{"Log",
			func(n uint64) uint64 { return gas.Log(topics, n) },
			func(n uint64) *big.Int { return plainLog(topics, n) }})
	}
	return cs
}

// P1201: each call that takes a size, at every edge, is what the chapter's words give.
func TestSizes(t *testing.T) {
	for _, n := range sizes() {
		for _, c := range sizeCosts() {
			same(t, c.got(n), c.plain(n), c.name, n)
		}
	}
}

// P1201: above 2^32 bytes all tell 2^62; at 2^32 none does.
func TestBeyondTheGreatestSize(t *testing.T) {
	for _, c := range sizeCosts() {
		for _, n := range []uint64{1<<32 + 1, 1<<32 + 31, 1<<32 + 32, 1 << 40, 1 << 63, full} {
			if got := c.got(n); got != 1<<62 {
				t.Errorf("%s of %d bytes: %d, not 2^62", c.name, n, got)
			}
		}
		if got := c.got(1 << 32); got >= 1<<62 {
			t.Errorf("%s of 2^32 bytes: %d", c.name, got)
		}
	}
}

// P1201: numbers written out.
func TestSizesByNumbers(t *testing.T) {
	rows := []struct{ n, words, memory, hash, copy, log0, log4, create, create2 uint64 }{
		{0, 0, 0, 30, 0, 375, 1875, 32000, 32000},
		{1, 1, 3, 36, 3, 383, 1883, 32002, 32008},
		{31, 1, 3, 36, 3, 623, 2123, 32002, 32008},
		{32, 1, 3, 36, 3, 631, 2131, 32002, 32008},
		{33, 2, 6, 42, 6, 639, 2139, 32004, 32016},
		{704, 22, 66, 162, 66, 6007, 7507, 32044, 32176},
		{736, 23, 70, 168, 69, 6263, 7763, 32046, 32184},
		{32768, 1024, 5120, 6174, 3072, 262519, 264019, 34048, 40192},
		{1<<32 - 1, 1 << 27, 3<<27 + 1<<45, 30 + 6<<27, 3 << 27, 367 + 1<<35, 1867 + 1<<35, 32000 + 2<<27, 32000 + 8<<27},
		{1 << 32, 1 << 27, 3<<27 + 1<<45, 30 + 6<<27, 3 << 27, 375 + 1<<35, 1875 + 1<<35, 32000 + 2<<27, 32000 + 8<<27},
	}
	for _, r := range rows {
		got := [8]uint64{gas.Words(r.n), gas.Memory(r.n), gas.Hash(r.n), gas.Copy(r.n), gas.Log(0, r.n), gas.Log(4, r.n), gas.Create(r.n, false), gas.Create(r.n, true)}
		want := [8]uint64{r.words, r.memory, r.hash, r.copy, r.log0, r.log4, r.create, r.create2}
		if got != want {
			t.Errorf("of %d bytes: %d, not %d", r.n, got, want)
		}
	}
}

// P1201: topics below 0 are 0, above 4 are 4.
func TestLogTopics(t *testing.T) {
	for topics, want := range map[int]uint64{
		math.MinInt: 383, -1: 383, 0: 383, 1: 758, 2: 1133, 3: 1508, 4: 1883, 5: 1883, 6: 1883, math.MaxInt: 1883,
	} {
		if got := gas.Log(topics, 1); got != want {
			t.Errorf("Log of %d topics: %d, not %d", topics, got, want)
		}
	}
}

// P1201: the chapter's examples.
func TestMemoryExamples(t *testing.T) {
	if a, b := gas.Memory(32), gas.Memory(32768); a != 3 || b != 5120 {
		t.Errorf("Memory of 32, 32768: %d, %d", a, b)
	}
}

// P1205: Memory costs no less for more, from none to all.
func TestMemoryRises(t *testing.T) {
	last := uint64(0)
	for n := range uint64(1 << 17) {
		cost := gas.Memory(n)
		if cost < last {
			t.Fatalf("Memory of %d: %d, of less: %d", n, cost, last)
		}
		last = cost
	}
	r := source()
	ns := sizes()
	for range 200000 {
		a, b := ns[r.IntN(len(ns))], ns[r.IntN(len(ns))]
		if a > b {
			a, b = b, a
		}
		if gas.Memory(a) > gas.Memory(b) {
			t.Fatalf("Memory of %d: %d, of %d: %d", a, gas.Memory(a), b, gas.Memory(b))
		}
	}
}

// P1205: a memory that goes up in parts costs what it costs whole, whatever the parts are.
func TestMemoryByParts(t *testing.T) {
	r := source()
	for range 2000 {
		size, paid := uint64(0), small(0)
		for range 1 + r.IntN(20) { // few of these rows go beyond the greatest size
			more := size + r.Uint64N(1<<31)>>r.IntN(31)
			step := new(big.Int).Sub(of(gas.Memory(more)), of(gas.Memory(size)))
			if step.Sign() < 0 {
				t.Fatalf("from %d to %d bytes: %v", size, more, step)
			}
			size, paid = more, sum(paid, step)
		}
		same(t, gas.Memory(size), paid, "Memory", size)
		same(t, gas.Memory(size), plainMemory(size), "Memory", size)
	}
}
