package signer

import (
	"bytes"
	"slices"

	"conclave/api"
	"conclave/ed"
	"conclave/wal"
)

// Sign: the signature of a text for a mark, with a note that Last tells; it is told once its record lasts.
func (s *Signer) Sign(m Mark, msg, note []byte) (api.Sig, api.Errno) {
	switch {
	case s == nil:
		return api.Sig{}, api.ErrNil
	case s.halted:
		return api.Sig{}, api.ErrHalt
	case !m.can():
		return api.Sig{}, api.ErrArg
	case Less(m, s.last.mark), m == s.last.mark && !bytes.Equal(msg, s.last.text):
		return api.Sig{}, api.ErrSigned
	case m == s.last.mark:
		return s.again()
	}
	return s.anew(record{mark: m, text: msg, note: note})
}

// again: the last signature once more. A record that Open found may stand behind a Sync that failed, while the log takes it as synced: were its signature told like that, a crash could take the record away, and another text be signed for its mark.
func (s *Signer) again() (api.Sig, api.Errno) {
	if s.found {
		if err := s.disk.Sync(s.lastFile()); err != api.OK {
			return s.halt(err)
		}
		s.found = false
	}
	return s.last.sig, api.OK
}

// lastFile: the name of the file that holds the last record; it need not be the log's last one, where a crash left that without records.
func (s *Signer) lastFile() string {
	names := s.disk.List()
	for n := range backwards(s.log) {
		if name := wal.File(logName, n); slices.Contains(names, name) {
			return name
		}
	}
	return ""
}

// anew: the signature of a record that has none yet, for a mark above all others.
func (s *Signer) anew(r record) (api.Sig, api.Errno) {
	if _, err := r.encode(); err != api.OK { // a text that is too much is not even hashed; what a signature is changes no size
		return api.Sig{}, err
	}
	r.sig, _ = ed.Sign(s.seed, r.text)
	b, _ := r.encode()
	if err := s.log.Append(b); err != api.OK {
		return s.halt(err)
	}
	if err := s.log.Sync(); err != api.OK {
		return s.halt(err)
	}
	r.text, r.note = bytes.Clone(r.text), bytes.Clone(r.note)
	s.last, s.found = r, false
	s.halted = s.log.Trim(s.log.End()-1) != api.OK
	return r.sig, api.OK
}

// halt: nothing is signed any more, by reason of that error.
func (s *Signer) halt(why api.Errno) (api.Sig, api.Errno) {
	s.halted = true
	return api.Sig{}, why
}
