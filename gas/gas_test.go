package gas_test

import (
	"bytes"
	"math"
	"testing"

	"conclave/api"
	"conclave/gas"
)

var ones = api.Word{full, full, full, full}

// P1202: the chapter's example, and numbers written out.
func TestIntrinsicByNumbers(t *testing.T) {
	rows := []struct {
		data         []byte
		call, create uint64
	}{
		{nil, 21000, 53000},
		{[]byte{}, 21000, 53000},
		{[]byte{0}, 21004, 53006},
		{[]byte{1}, 21016, 53018},
		{[]byte{255}, 21016, 53018},
		{[]byte{0, 1}, 21020, 53022},
		{make([]byte, 32), 21128, 53130},
		{make([]byte, 33), 21132, 53136},
		{bytes.Repeat([]byte{7}, 32), 21512, 53514},
		{bytes.Repeat([]byte{7}, 33), 21528, 53532},
		{bytes.Repeat([]byte{9, 0, 128}, 11), 21396, 53400},
	}
	for _, r := range rows {
		if call, create := gas.Intrinsic(r.data, false), gas.Intrinsic(r.data, true); call != r.call || create != r.create {
			t.Errorf("Intrinsic of %x: %d, creating %d, not %d, %d", r.data, call, create, r.call, r.create)
		}
	}
}

// P1202: each byte alone, and drawn data up to and beyond all limits, with noughts of each share.
func TestIntrinsic(t *testing.T) {
	for b := range 256 {
		data := []byte{byte(b)}
		same(t, gas.Intrinsic(data, false), plainIntrinsic(data, false), "Intrinsic", data)
	}
	r := source()
	for range 300 {
		data := make([]byte, drawn(r)%(2*api.MaxInit))
		share := r.IntN(5)
		for i := range data {
			if r.IntN(4) < share {
				data[i] = byte(r.Uint32())
			}
		}
		for _, create := range []bool{false, true} {
			same(t, gas.Intrinsic(data, create), plainIntrinsic(data, create), "Intrinsic", len(data), create)
		}
	}
}

// P1202: what is handed in stays as it was, its spare room too, and nothing of it is kept.
func TestIntrinsicMemory(t *testing.T) {
	room := []byte{1, 0, 3, 4, 0, 6}
	was := bytes.Clone(room)
	for _, create := range []bool{false, true} {
		first := gas.Intrinsic(room[:3], create)
		if !bytes.Equal(room, was) {
			t.Fatalf("Intrinsic wrote: %x", room)
		}
		if again := gas.Intrinsic(room[:3], create); again != first {
			t.Errorf("Intrinsic twice: %d, %d", first, again)
		}
	}
}

// P1202: 50 for each byte of the exponent.
func TestExp(t *testing.T) {
	for e, want := range map[api.Word]uint64{
		{}: 10, {1}: 60, {255}: 60, {256}: 110, {65535}: 110, {65536}: 160, {full}: 410, {0, 1}: 460,
		{0, 0, 1}: 860, {0, 0, 0, 1}: 1260, {0, 0, 0, 1 << 56}: 1610, ones: 1610,
	} {
		if got := gas.Exp(e); got != want {
			t.Errorf("Exp of %x: %d, not %d", e, got, want)
		}
	}
	r := source()
	for range 10000 {
		e := drawnWord(r)
		same(t, gas.Exp(e), plainExp(e), "Exp", e)
	}
}

// P1202: an account and a slot, warm or not.
func TestAccessSload(t *testing.T) {
	if warm, cold := gas.Access(true), gas.Access(false); warm != 100 || cold != 2600 {
		t.Errorf("Access: %d, %d", warm, cold)
	}
	if warm, cold := gas.Sload(true), gas.Sload(false); warm != 100 || cold != 2100 {
		t.Errorf("Sload: %d, %d", warm, cold)
	}
}

// P1202: a call, by all its choices.
func TestCall(t *testing.T) {
	rows := []struct {
		warm, value, exists bool
		want                uint64
	}{
		{false, false, false, 2600},
		{false, false, true, 2600},
		{false, true, false, 36600},
		{false, true, true, 11600},
		{true, false, false, 100},
		{true, false, true, 100},
		{true, true, false, 34100},
		{true, true, true, 9100},
	}
	for _, r := range rows {
		if got := gas.Call(r.warm, r.value, r.exists); got != r.want {
			t.Errorf("Call of %v, %v, %v: %d, not %d", r.warm, r.value, r.exists, got, r.want)
		}
	}
}

// P1204: what is asked, but no more than left less left / 64; numbers written out.
func TestForwardByNumbers(t *testing.T) {
	for left, most := range map[uint64]uint64{
		0: 0, 1: 1, 63: 63, 64: 63, 65: 64, 127: 126, 128: 126, 640: 630, 1 << 63: 63 << 57, full: full - (1<<58 - 1),
	} {
		asks := map[api.Word]uint64{
			{}: 0, {most}: most, {full}: most, {0, 1}: most, {1, 1}: most,
			{0, 0, 1}: most, {1, 0, 0, 1}: most, {most, 1}: most, ones: most,
		}
		if most > 0 {
			asks[api.Word{most - 1}] = most - 1
			asks[api.Word{1}] = 1
		}
		if most < full {
			asks[api.Word{most + 1}] = most
		}
		for asked, want := range asks {
			if got := gas.Forward(left, asked); got != want {
				t.Errorf("Forward of %d, asked %x: %d, not %d", left, asked, got, want)
			}
		}
	}
}

// P1204: Forward, all small numbers and drawn ones.
func TestForward(t *testing.T) {
	for left := range uint64(300) {
		for asked := range uint64(310) {
			same(t, gas.Forward(left, api.Word{asked}), plainForward(left, api.Word{asked}), "Forward", left, asked)
		}
	}
	r := source()
	for range 20000 {
		left, asked := drawn(r), drawnWord(r)
		same(t, gas.Forward(left, asked), plainForward(left, asked), "Forward", left, asked)
	}
}

// P1204: the sum, but no more than a fifth of what was used, and nothing of a sum below 0; numbers written out.
func TestRefundByNumbers(t *testing.T) {
	rows := []struct {
		used uint64
		sum  int64
		want uint64
	}{
		{100, 0, 0}, {100, 1, 1}, {100, 19, 19}, {100, 20, 20}, {100, 21, 20}, {100, 50, 20}, {100, -1, 0}, {100, -20, 0},
		{100, math.MaxInt64, 20}, {100, math.MinInt64, 0}, {0, 0, 0}, {0, 5, 0}, {0, -5, 0}, {0, math.MaxInt64, 0},
		{4, 1, 0}, {5, 1, 1}, {9, 2, 1}, {99, 20, 19}, {104, 21, 20}, {105, 21, 21},
		{full, math.MaxInt64, full / 5}, {full, math.MinInt64, 0}, {full, -1, 0}, {full, full / 5, full / 5}, {full, full/5 + 1, full / 5}, {full, full/5 - 1, full/5 - 1},
	}
	for _, r := range rows {
		if got := gas.Refund(r.used, r.sum); got != r.want {
			t.Errorf("Refund of %d used, %d: %d, not %d", r.used, r.sum, got, r.want)
		}
	}
}

// P1204: Refund, all small numbers and drawn ones.
func TestRefund(t *testing.T) {
	for used := range uint64(300) {
		for refund := int64(-70); refund < 70; refund++ {
			same(t, gas.Refund(used, refund), plainRefund(used, refund), "Refund", used, refund)
		}
	}
	r := source()
	for range 20000 {
		used, refund := drawn(r), int64(drawn(r))
		same(t, gas.Refund(used, refund), plainRefund(used, refund), "Refund", used, refund)
	}
}
