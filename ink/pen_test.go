package ink_test

import (
	"bytes"
	"encoding/binary"
	"math"
	"testing"

	"quadrille/ink"
)

// want fails the test unless what is got are these bytes (nil and empty are the same).
func want(t *testing.T, what string, got, bytesWanted []byte) {
	t.Helper()
	if !bytes.Equal(got, bytesWanted) {
		t.Errorf("%s: got % x, want % x", what, got, bytesWanted)
	}
}

// edges are the numbers at which one more byte is taken, and those about them.
func edges() []uint64 {
	l := []uint64{0, 1, 2, 300, math.MaxInt32, math.MaxUint32, math.MaxInt64, math.MaxUint64 - 1, math.MaxUint64}
	for shift := 1; shift < 64; shift++ {
		n := uint64(1) << shift
		l = append(l, n-1, n, n+1)
	}
	return l
}

func TestNewHasWrittenNothing(t *testing.T) {
	want(t, "New", ink.New().Bytes(), nil)
}

func TestNumBytes(t *testing.T) {
	for _, c := range []struct {
		n uint64
		p []byte
	}{
		{0, []byte{0}},
		{1, []byte{1}},
		{127, []byte{0x7f}},
		{128, []byte{0x80, 1}},
		{300, []byte{0xac, 2}},
		{16383, []byte{0xff, 0x7f}},
		{16384, []byte{0x80, 0x80, 1}},
		{1<<31 - 1, []byte{0xff, 0xff, 0xff, 0xff, 7}},
		{1 << 31, []byte{0x80, 0x80, 0x80, 0x80, 8}},
		{1<<32 - 1, []byte{0xff, 0xff, 0xff, 0xff, 0xf}},
		{1<<63 - 1, []byte{0xff, 0xff, 0xff, 0xff, 0xff, 0xff, 0xff, 0xff, 0x7f}},
		{1 << 63, []byte{0x80, 0x80, 0x80, 0x80, 0x80, 0x80, 0x80, 0x80, 0x80, 1}},
		{math.MaxUint64, []byte{0xff, 0xff, 0xff, 0xff, 0xff, 0xff, 0xff, 0xff, 0xff, 1}},
	} {
		p := ink.New()
		p.Num(c.n)
		want(t, "Num", p.Bytes(), c.p)
	}
}

func TestNumAgainstTheLibrary(t *testing.T) {
	p := ink.New()
	var all []byte
	for _, n := range edges() {
		p.Num(n)
		all = binary.AppendUvarint(all, n)
	}
	want(t, "all edges, one behind the other", p.Bytes(), all)
}

func TestIntFromNoughtOnIsNum(t *testing.T) {
	for _, n := range []int{0, 1, 127, 128, 300, math.MaxInt32, math.MaxInt32 + 1, math.MaxInt} {
		p, q := ink.New(), ink.New()
		p.Int(n)
		q.Num(uint64(n))
		want(t, "Int", p.Bytes(), q.Bytes())
	}
}

func TestIntBelowNoughtSpoilsThePen(t *testing.T) {
	for _, n := range []int{-1, -2, -128, math.MinInt32, math.MinInt} {
		p := ink.New()
		p.Num(7)
		p.Text([]byte("ahead"))
		p.Int(n)
		want(t, "what was ahead", p.Bytes(), nil)
		p.Num(1)
		want(t, "Num", p.Bytes(), nil)
		p.Int(2)
		want(t, "Int", p.Bytes(), nil)
		p.Bool(true)
		want(t, "Bool", p.Bytes(), nil)
		p.Text([]byte("ab"))
		want(t, "Text", p.Bytes(), nil)
		p.Text(nil)
		p.Int(n)
		want(t, "again", p.Bytes(), nil)

		other := ink.New()
		other.Num(3)
		want(t, "another pen", other.Bytes(), []byte{3})
	}
}

func TestBoolBytes(t *testing.T) {
	p := ink.New()
	p.Bool(true)
	p.Bool(false)
	want(t, "Bool", p.Bytes(), []byte{1, 0})
}

func TestTextBytes(t *testing.T) {
	for _, n := range []int{0, 1, 2, 127, 128, 300, 20000} {
		text := bytes.Repeat([]byte{0xa5}, n)
		p := ink.New()
		p.Text(text)
		want(t, "Text", p.Bytes(), append(binary.AppendUvarint(nil, uint64(n)), text...))
	}
	p := ink.New()
	p.Text([]byte("ab"))
	p.Text(nil)
	p.Text([]byte{})
	p.Text([]byte{0x80})
	want(t, "several texts", p.Bytes(), []byte{2, 'a', 'b', 0, 0, 1, 0x80})
}

func TestAllStandsBehindAllElse(t *testing.T) {
	p := ink.New()
	p.Text([]byte{9})
	p.Num(300)
	want(t, "half of it", p.Bytes(), []byte{1, 9, 0xac, 2})
	p.Bool(false)
	p.Int(5)
	want(t, "all of it", p.Bytes(), []byte{1, 9, 0xac, 2, 0, 5})
}

func TestNilPen(t *testing.T) {
	var p *ink.Pen
	p.Num(1)
	p.Int(1)
	p.Int(-1)
	p.Bool(true)
	p.Text([]byte("ab"))
	p.Text(nil)
	want(t, "a nil pen", p.Bytes(), nil)
}

func TestPenKeepsNoText(t *testing.T) {
	room := []byte("abcdef")
	p := ink.New()
	p.Text(room[:2])
	p.Num(1)
	want(t, "the caller's room", room, []byte("abcdef"))
	copy(room, "zzzzzz")
	want(t, "written over behind the call", p.Bytes(), []byte{2, 'a', 'b', 1})
}

func TestBytesAreNewMemory(t *testing.T) {
	p := ink.New()
	p.Text([]byte("ab"))
	one := p.Bytes()
	two := p.Bytes()
	scribble(one)
	want(t, "an answer beside another", two, []byte{2, 'a', 'b'})
	p.Num(5)
	want(t, "the pen behind it", p.Bytes(), []byte{2, 'a', 'b', 5})
	scribble(two)
	p.Num(6)
	want(t, "the pen behind both", p.Bytes(), []byte{2, 'a', 'b', 5, 6})

	three := p.Bytes()
	p.Num(7)
	want(t, "an earlier answer", three, []byte{2, 'a', 'b', 5, 6})
	spare := three[len(three):cap(three)]
	before := bytes.Clone(spare)
	p.Num(8)
	want(t, "its spare room", spare, before)
}

// scribble writes over all of p, and over its spare room.
func scribble(p []byte) {
	p = p[:cap(p)]
	for i := range p {
		p[i] = 0xee
	}
}
