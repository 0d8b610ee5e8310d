// Package knot is layer 2: bytes with their length ahead, and a sum behind. See shared/doc/02-knot.md.
package knot

import (
	"bytes"

	"quadrille/api"
)

const (
	polynomial = 0x82f63b78 // CRC-32C, the lowest bit first
	headBytes  = 2          // the length
	sumBytes   = 4
	byteBits   = 8
)

// Sum answers the CRC-32C of p.
func Sum(p []byte) uint32 {
	sum := ^uint32(0)
	for _, b := range p {
		sum ^= uint32(b)
		for range byteBits {
			low := sum & 1
			sum = sum>>1 ^ polynomial&-low
		}
	}
	return ^sum
}

// Tie answers the knot of t.
func Tie(t []byte) ([]byte, api.Errno) {
	if len(t) > api.MaxBytes {
		return nil, api.ErrLong
	}
	k := make([]byte, 0, headBytes+len(t)+sumBytes)
	k = append(k, byte(len(t)), byte(len(t)>>byteBits))
	k = append(k, t...)
	sum := Sum(k)
	for i := range sumBytes {
		k = append(k, byte(sum>>(byteBits*i)))
	}
	return k, api.OK
}

// Untie answers the text of p, which is to be one knot and nothing else.
func Untie(p []byte) ([]byte, api.Errno) {
	t, rest, e := split(p)
	if e != api.OK {
		return nil, e
	}
	if len(rest) > 0 {
		return nil, api.ErrForm
	}
	return bytes.Clone(t), api.OK
}

// Next answers the text of the knot in front of p, and what stands behind that knot.
func Next(p []byte) ([]byte, []byte, api.Errno) {
	t, rest, e := split(p)
	return bytes.Clone(t), bytes.Clone(rest), e
}

// split is Next, but what it answers are pieces of p: they are not for a caller of the package.
func split(p []byte) (t, rest []byte, e api.Errno) {
	if len(p) < headBytes {
		return nil, nil, api.ErrShort
	}
	size := int(p[0]) | int(p[1])<<byteBits
	if size > api.MaxBytes {
		return nil, nil, api.ErrLong
	}
	summed := headBytes + size
	if len(p) < summed+sumBytes {
		return nil, nil, api.ErrShort
	}
	if Sum(p[:summed]) != number(p[summed:]) {
		return nil, nil, api.ErrSum
	}
	return p[headBytes:summed], p[summed+sumBytes:], api.OK
}

// number answers the number of the first sumBytes bytes, the lowest first.
func number(p []byte) uint32 {
	var n uint32
	for i := range sumBytes {
		n |= uint32(p[i]) << (byteBits * i)
	}
	return n
}
