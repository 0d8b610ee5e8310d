// Package ink is layer 1: numbers and bytes as bytes. See shared/doc/01-ink.md.
package ink

import (
	"bytes"

	"quadrille/api"
)

const (
	groupBits = 7    // bits of a number in one byte
	more      = 0x80 // the top bit: another byte of the number follows
	mostBytes = 10   // that a number below 2^64 takes
	lastTop   = 1    // the 64th bit is all that the tenth byte may have
	intLimit  = 1 << 31
)

// Pen writes.
type Pen struct {
	out []byte
	bad bool // a number below 0 was to be written
}

// New answers a pen that has written nothing.
func New() *Pen { return &Pen{} }

// Num writes a number.
func (p *Pen) Num(n uint64) {
	if p == nil || p.bad {
		return
	}
	for n >= more {
		p.out = append(p.out, byte(n)|more)
		n >>= groupBits
	}
	p.out = append(p.out, byte(n))
}

// Int writes a number from 0 on; one below 0 spoils the pen for good.
func (p *Pen) Int(n int) {
	if p == nil {
		return
	}
	if n < 0 {
		p.bad = true
		p.out = nil
		return
	}
	p.Num(uint64(n))
}

// Bool writes 1 or 0.
func (p *Pen) Bool(b bool) {
	if b {
		p.Num(1)
	} else {
		p.Num(0)
	}
}

// Text writes how many bytes t has, and they.
func (p *Pen) Text(t []byte) {
	if p == nil || p.bad {
		return
	}
	p.Num(uint64(len(t)))
	p.out = append(p.out, t...)
}

// Bytes answers all that is written.
func (p *Pen) Bytes() []byte {
	if p == nil {
		return nil
	}
	return bytes.Clone(p.out)
}

// Eye reads.
type Eye struct {
	rest   []byte // what stands behind what was read
	failed bool
}

// Read answers an eye ahead of p's first byte. It has bytes of its own: a caller may write over p.
func Read(p []byte) *Eye { return &Eye{rest: bytes.Clone(p)} }

// Num reads a number.
func (e *Eye) Num() uint64 {
	if e == nil || e.failed {
		return 0
	}
	n, size := front(e.rest)
	if size == 0 {
		e.fail()
		return 0
	}
	e.rest = e.rest[size:]
	return n
}

// Int reads a number below 2^31.
func (e *Eye) Int() int { return int(e.below(intLimit)) }

// Bool reads 0 or 1.
func (e *Eye) Bool() bool { return e.below(2) == 1 }

// Text reads a number, and as many bytes.
func (e *Eye) Text() []byte {
	n := e.Num()
	if e == nil || e.failed {
		return nil
	}
	if n > uint64(len(e.rest)) {
		e.fail()
		return nil
	}
	t := bytes.Clone(e.rest[:n])
	e.rest = e.rest[n:]
	return t
}

// Left answers how many bytes stand behind what was read.
func (e *Eye) Left() int {
	if e == nil {
		return 0
	}
	return len(e.rest)
}

// End answers ErrForm if the eye has failed or bytes are left.
func (e *Eye) End() api.Errno {
	switch {
	case e == nil:
		return api.ErrNone
	case e.failed || len(e.rest) > 0:
		return api.ErrForm
	}
	return api.OK
}

// below reads a number that is less than limit.
func (e *Eye) below(limit uint64) uint64 {
	n := e.Num()
	if n >= limit {
		e.fail()
		return 0
	}
	return n
}

// fail gives up for good: nothing is left to be read.
func (e *Eye) fail() {
	e.failed = true
	e.rest = nil
}

// front answers the number in front of p and how many bytes it has: 0, if none stands there.
func front(p []byte) (uint64, int) {
	var n uint64
	for i := range min(len(p), mostBytes) {
		b := p[i]
		if i == mostBytes-1 && b > lastTop {
			return 0, 0
		}
		n |= uint64(b&^more) << (groupBits * i)
		if b >= more {
			continue
		}
		if b == 0 && i > 0 { // fewer bytes would do
			return 0, 0
		}
		return n, i + 1
	}
	return 0, 0
}
