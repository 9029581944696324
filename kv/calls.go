package kv

import (
	"bytes"
	"iter"
	"slices"

	"conclave/api"
)

// Put: all changes at once; behind an answer of OK they last.
func (s *Store) Put(l []Change) api.Errno {
	if s == nil {
		return api.ErrNil
	}
	if s.broken {
		return api.ErrHalt
	}
	b, err := Batch(l)
	if err != api.OK {
		return err
	}
	record := append([]byte{batch}, b...)
	if err := s.save(record); err != api.OK {
		return err
	}
	s.do(record)
	return api.OK
}

// save: a record stands in the log, and lasts. Where that fails it may be there or not, so the store is broken.
func (s *Store) save(record []byte) api.Errno {
	err := s.log.Append(record)
	if err == api.OK {
		err = s.log.Sync()
	}
	s.broken = err != api.OK
	return err
}

// Snap: a record of all keys, and the log without what is older.
func (s *Store) Snap() api.Errno {
	if s == nil {
		return api.ErrNil
	}
	if s.broken {
		return api.ErrHalt
	}
	b, err := write(s.rising(nil, nil))
	if err != api.OK {
		return err
	}
	n := s.log.End()
	if err := s.save(append([]byte{snapshot}, b...)); err != api.OK {
		return err
	}
	return s.log.Trim(n)
}

// Get: a key's value, and whether there is one.
func (s *Store) Get(key []byte) ([]byte, bool) {
	if s == nil {
		return nil, false
	}
	val, ok := s.keys[string(key)]
	return bytes.Clone(val), ok
}

// Range: the keys from one on, below the other one, with their values.
func (s *Store) Range(from, to []byte) []Change {
	if s == nil {
		return nil
	}
	var out []Change
	for c := range s.rising(from, to) {
		out = append(out, Change{Key: c.Key, Val: bytes.Clone(c.Val)})
	}
	return out
}

// rising: what Range tells; the keys are new memory, the values are the store's own.
func (s *Store) rising(from, to []byte) iter.Seq[Change] {
	return func(yield func(Change) bool) {
		for _, key := range s.between(string(from), string(to)) {
			if !yield(Change{Key: []byte(key), Val: s.keys[key]}) {
				return
			}
		}
	}
}

// between: the keys of a Range, sorted, since a map has no order.
func (s *Store) between(from, to string) []string {
	var keys []string
	for key := range s.keys {
		if key >= from && (key < to || to == "") {
			keys = append(keys, key)
		}
	}
	slices.Sort(keys)
	return keys
}

// Len: how many keys there are.
func (s *Store) Len() int {
	if s == nil {
		return 0
	}
	return len(s.keys)
}
