package note

import (
	"math"

	"quadrille/api"
	"quadrille/ink"
	"quadrille/knot"
)

// fields reads what stands in a text, field by field.
type fields struct {
	*ink.Eye
	over bool // a number was too great for its field
}

// small reads a number of a field of one byte.
func (f *fields) small() byte { return byte(f.upTo(math.MaxUint8)) }

// word reads a number of a field of 32 bits.
func (f *fields) word() uint32 { return uint32(f.upTo(math.MaxUint32)) }

// upTo reads a number of at most most.
func (f *fields) upTo(most uint64) uint64 {
	n := f.Num()
	if n > most {
		f.over = true
		return 0
	}
	return n
}

// read answers the thing whose bytes p is: a thing of that kind has the number what in front, take reads its fields, and right tells whether it may be so.
func read[T any](p []byte, what uint64, right func(T) bool, take func(*fields) T) (T, api.Errno) {
	var none T
	text, e := knot.Untie(p)
	if e != api.OK {
		return none, e
	}
	f := &fields{Eye: ink.Read(text)}
	if f.Num() != what {
		return none, api.ErrForm
	}
	x := take(f)
	if f.over || f.End() != api.OK || !right(x) {
		return none, api.ErrForm
	}
	return x, api.OK
}
