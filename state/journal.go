package state

import (
	"iter"
	"slices"

	"conclave/api"
)

// note: what takes back a change that is made now. Without a snapshot there is nowhere to go back to.
func (s *State) note(undo func()) {
	if len(s.snapshots) > 0 {
		s.journal = append(s.journal, undo)
	}
}

// assign: a field of the state has another value, till that is taken back.
func assign[T any](s *State, field *T, val T) {
	old := *field
	s.note(func() { *field = old })
	*field = val
}

// put: a map of the state has a value for a key, till that is taken back.
func put[K comparable, V any](s *State, m map[K]V, key K, val V) {
	old, was := m[key]
	s.note(func() {
		if was {
			m[key] = old
		} else {
			delete(m, key)
		}
	})
	m[key] = val
}

// touch: was the key there? It is now.
func touch[K comparable](s *State, m map[K]struct{}, key K) bool {
	_, was := m[key]
	if !was {
		put(s, m, key, struct{}{})
	}
	return was
}

// Snapshot: the number of a place to go back to.
func (s *State) Snapshot() int {
	if s.broken() {
		return 0
	}
	s.snapshots = append(s.snapshots, len(s.journal))
	return len(s.snapshots) - 1
}

// Revert: back to a snapshot. A state that is broken is not changed by that, but still tells which snapshots it has.
func (s *State) Revert(id int) api.Errno {
	if s == nil {
		return api.ErrNil
	}
	if id < 0 || id >= len(s.snapshots) {
		return api.ErrArg
	}
	if s.broken() {
		return api.OK
	}
	to := s.snapshots[id]
	for undo := range s.backwards(to) {
		undo()
	}
	s.journal = slices.Delete(s.journal, to, len(s.journal))
	s.snapshots = s.snapshots[:id]
	return api.OK
}

// backwards: what the journal has from a length on, the last first.
func (s *State) backwards(from int) iter.Seq[func()] {
	return func(yield func(func()) bool) {
		for i := len(s.journal) - 1; i >= from; i-- {
			if !yield(s.journal[i]) {
				return
			}
		}
	}
}
