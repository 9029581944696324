package gas

import (
	"conclave/api"
	"conclave/word"
)

const (
	setGas   = 20000 // of a slot that comes to be
	resetGas = 2900  // of a slot that was there

	clearRefund = 4800               // for a slot that goes
	unsetRefund = setGas - warmGas   // for a slot that is 0 again, as it was at first
	backRefund  = resetGas - warmGas // for another slot that is again what it was at first
)

// Sstore: of a slot that was first at the transaction's beginning, is now and shall be next: the cost, and the refund (below 0: one that is taken back).
func Sstore(first, now, next api.Word, warm bool) (uint64, int64) {
	cost, refund := change(first, now, next)
	if !warm {
		cost += coldSlotGas
	}
	return cost, refund
}

// change: as Sstore, of a warm slot.
func change(first, now, next api.Word) (uint64, int64) {
	switch {
	case next == now:
		return warmGas, 0
	case now != first: // the dear change was paid already
		return warmGas, clearing(first, now, next) + comingBack(first, next)
	case word.Zero(first):
		return setGas, 0
	case word.Zero(next):
		return resetGas, clearRefund
	}
	return resetGas, 0
}

// clearing: the refund for a slot that goes, or taken back for one that went and comes again.
func clearing(first, now, next api.Word) int64 {
	switch {
	case word.Zero(first):
		return 0
	case word.Zero(now):
		return -clearRefund
	case word.Zero(next):
		return clearRefund
	}
	return 0
}

// comingBack: the refund for a slot that is again what it was at first.
func comingBack(first, next api.Word) int64 {
	switch {
	case next != first:
		return 0
	case word.Zero(first):
		return unsetRefund
	}
	return backRefund
}
