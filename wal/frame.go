package wal

import (
	"bytes"
	"iter"

	"conclave/api"
)

const headSize = 12 // bytes of a frame ahead of its record

// halfSums: what four bits that leave a sum add to it; 16 of them, since a table of 256 is beyond what may stand here.
var halfSums = [16]uint32{
	0x00000000, 0x1db71064, 0x3b6e20c8, 0x26d930ac, 0x76dc4190, 0x6b6b51f4, 0x4db26158, 0x5005713c,
	0xedb88320, 0xf00f9344, 0xd6d6a3e8, 0xcb61b38c, 0x9b64c2b0, 0x86d3d2d4, 0xa00ae278, 0xbdbdf21c,
}

// Sum: the CRC-32 of bytes.
func Sum(b []byte) uint32 {
	s := ^uint32(0)
	for _, c := range b {
		s ^= uint32(c)
		s = s>>4 ^ halfSums[s&15]
		s = s>>4 ^ halfSums[s&15]
	}
	return ^s
}

// Frame: a record with its length and its sums ahead. The length has a sum of its own, so that a wrong one is not taken for an end that is cut.
func Frame(b []byte) []byte {
	out := make([]byte, 0, headSize+len(b))
	out = appendFour(out, uint32(len(b)))
	out = appendFour(out, Sum(out))
	out = appendFour(out, Sum(b))
	return append(out, b...)
}

// Next: the record of the frame with which bytes begin, and how many bytes the frame has.
func Next(b []byte) ([]byte, int, api.Errno) {
	if len(b) < headSize {
		return nil, 0, api.ErrEnd
	}
	told := four(b)
	if four(b[4:]) != Sum(b[:4]) || told > api.MaxRecord {
		return nil, 0, api.ErrRot
	}
	end := headSize + int(told)
	if end > len(b) {
		return nil, 0, api.ErrEnd
	}
	record := b[headSize:end]
	if four(b[8:]) != Sum(record) {
		return nil, 0, api.ErrRot
	}
	return bytes.Clone(record), end, api.OK
}

// frames: the records of a file, one behind the other; where no frame stands any more, its error comes last.
func frames(b []byte) iter.Seq2[[]byte, api.Errno] {
	return func(yield func([]byte, api.Errno) bool) {
		for rest := b; len(rest) > 0; {
			record, n, err := Next(rest)
			if !yield(record, err) || err != api.OK {
				return
			}
			rest = rest[n:]
		}
	}
}

func appendFour(b []byte, n uint32) []byte {
	return append(b, byte(n>>24), byte(n>>16), byte(n>>8), byte(n))
}

func four(b []byte) uint32 {
	return uint32(b[0])<<24 | uint32(b[1])<<16 | uint32(b[2])<<8 | uint32(b[3])
}
