package codec

import (
	"bytes"

	"canton/api"
)

const (
	polynomial = 0xEDB88320
	sumBytes   = 4
)

// Seal answers b with its sum behind it.
func Seal(b []byte) []byte {
	out := make([]byte, 0, len(b)+sumBytes)
	out = append(out, b...)
	s := sum(b)
	for i := range sumBytes {
		out = append(out, byte(s>>(8*i)))
	}
	return out
}

// Open answers what was Sealed to b.
func Open(b []byte) ([]byte, api.Errno) {
	n := len(b) - sumBytes
	if n < 0 {
		return nil, api.ErrShort
	}
	var told uint32
	for i, c := range b[n:] {
		told |= uint32(c) << (8 * i)
	}
	if told != sum(b[:n]) {
		return nil, api.ErrSum
	}
	return bytes.Clone(b[:n]), api.OK
}

// sum answers the CRC-32 of b, bit by bit, the lowest first: a table of 256 words
// would be faster, but long for what nodes say.
func sum(b []byte) uint32 {
	s := ^uint32(0)
	for _, c := range b {
		s ^= uint32(c)
		for range 8 {
			s = s>>1 ^ s%2*polynomial
		}
	}
	return ^s
}
