package signer

// What is signed in a round, by its steps.
const (
	proposal  = 1
	precommit = 3 // a prevote stands between
)

const mostRound = 1<<31 - 1

// Mark: for what is signed.
type Mark struct {
	Height      uint64
	Round, Step int
}

// Less: the order of marks.
func Less(a, b Mark) bool {
	switch {
	case a.Height != b.Height:
		return a.Height < b.Height
	case a.Round != b.Round:
		return a.Round < b.Round
	}
	return a.Step < b.Step
}

// can: whether something may be signed for it.
func (m Mark) can() bool {
	return m.Height > 0 && m.Round >= 0 && m.Round <= mostRound && m.Step >= proposal && m.Step <= precommit
}
