package block_test

import (
	"bytes"
	"encoding/binary"
	"hash/crc32"
	"math"
	"testing"

	"quadrille/api"
	"quadrille/block"
	"quadrille/slab"
)

// made answers a new slab of n sectors.
func made(t *testing.T, n int) *slab.Slab {
	t.Helper()
	s, e := slab.New(n)
	if e != api.OK {
		t.Fatalf("New(%d): error %d", n, e)
	}
	return s
}

// answers fails the test unless the error is the one that is wanted.
func answers(t *testing.T, what string, got, want api.Errno) {
	t.Helper()
	if got != want {
		t.Errorf("%s: error %d, want %d", what, got, want)
	}
}

// pattern answers n bytes that differ from one to the next, none of them 0.
func pattern(n, seed int) []byte {
	p := make([]byte, n)
	for i := range p {
		p[i] = byte(1 + (i*5+seed*31)%255)
	}
	return p
}

// summed answers the 124 bytes of p with noughts behind, and their sum by the library.
func summed(p []byte) []byte {
	full := make([]byte, 124)
	copy(full, p)
	return binary.LittleEndian.AppendUint32(full, crc32.Checksum(full, crc32.MakeTable(crc32.Castagnoli)))
}

// model answers the sector of a block as the chapter says it.
func model(b block.Block) []byte {
	p := []byte{b.Kind, byte(len(b.Data))}
	for _, n := range []uint32{b.Epoch, b.A, b.B} {
		p = binary.LittleEndian.AppendUint32(p, n)
	}
	return summed(append(p, b.Data...))
}

// same answers whether both blocks are one and the same (nil and empty are).
func same(a, b block.Block) bool {
	return a.Kind == b.Kind && a.Epoch == b.Epoch && a.A == b.A && a.B == b.B && bytes.Equal(a.Data, b.Data)
}

// gets fails the test unless Get answers the block.
func gets(t *testing.T, what string, s *slab.Slab, i int, want block.Block) {
	t.Helper()
	b, e := block.Get(s, i)
	if e != api.OK || !same(b, want) {
		t.Errorf("%s: Get(%d): error %d, %v; want %v", what, i, e, b, want)
	}
}

// getsNone fails the test unless Get answers that error, and nothing beside it.
func getsNone(t *testing.T, what string, s *slab.Slab, i int, want api.Errno) {
	t.Helper()
	b, e := block.Get(s, i)
	if e != want || !same(b, block.Block{}) {
		t.Errorf("%s: Get(%d): error %d, %v; want error %d", what, i, e, b, want)
	}
}

// sample answers blocks of all kinds, of all lengths, with numbers at their edges.
func sample() []block.Block {
	l := []block.Block{
		{Kind: 7, Epoch: 1, A: 2, B: 3, Data: []byte("ab")},
		{Kind: 1},
		{Kind: 255, Epoch: math.MaxUint32, A: math.MaxUint32, B: math.MaxUint32, Data: bytes.Repeat([]byte{255}, api.Payload)},
		{Kind: 1, Epoch: 0x04030201, A: 0x08070605, B: 0x0c0b0a09, Data: []byte{0}},
		{Kind: 2, Epoch: 1 << 31, A: 1 << 16, B: 255, Data: make([]byte, api.Payload)},
	}
	for kind := 1; kind < 256; kind++ {
		l = append(l, block.Block{Kind: byte(kind), Epoch: uint32(kind) << 24, A: uint32(kind) << 8, B: uint32(kind), Data: pattern(kind%(api.Payload+1), kind)})
	}
	for n := range api.Payload + 1 {
		l = append(l, block.Block{Kind: 3, A: uint32(n), Data: pattern(n, n)})
	}
	return l
}

func TestPutWritesTheBlock(t *testing.T) {
	s := made(t, 3)
	for _, b := range sample() {
		steps, way := s.Steps(), s.Way()
		answers(t, "Put", block.Put(s, 1, b), api.OK)
		p, e := s.Read(1)
		if e != api.OK || !bytes.Equal(p, model(b)) {
			t.Errorf("Put of %v: error %d, % x; want % x", b, e, p, model(b))
		}
		if s.Steps() != steps+1 || s.Way() != way+1 {
			t.Errorf("Put: %d steps, %d writes under way", s.Steps()-steps, s.Way()-way)
		}
	}
	for _, i := range []int{0, 2} {
		if p, _ := s.Read(i); !bytes.Equal(p, make([]byte, api.Sector)) {
			t.Errorf("Put wrote to the sector %d, too", i)
		}
	}
}

func TestGetTellsTheBlock(t *testing.T) {
	s := made(t, 4)
	for _, b := range sample() {
		answers(t, "Put", block.Put(s, 3, b), api.OK)
		gets(t, "put", s, 3, b)
		answers(t, "Write", s.Write(0, model(b)), api.OK)
		steps := s.Steps()
		gets(t, "written", s, 0, b)
		if s.Steps() != steps {
			t.Error("Get is a step")
		}
	}
	getsNone(t, "nothing is there", s, 1, api.ErrNone)
}

func TestPutRefused(t *testing.T) {
	s := made(t, 2)
	long := block.Block{Kind: 1, Data: make([]byte, api.Payload+1)}
	short := block.Block{Kind: 1, Data: make([]byte, api.Payload)}
	formless := block.Block{A: 1, Data: []byte("ab")}
	both := block.Block{Data: long.Data}
	refused := func(what string) {
		for _, i := range []int{math.MinInt, -1, 2, 3, api.MaxSectors, 1 << 32, math.MaxInt} {
			for _, b := range []block.Block{short, long, formless, both} {
				answers(t, what+": no such sector", block.Put(s, i, b), api.ErrArg)
			}
		}
		for i := range 2 {
			answers(t, what+": too long", block.Put(s, i, long), api.ErrLong)
			answers(t, what+": too long, and Kind 0", block.Put(s, i, both), api.ErrLong)
			answers(t, what+": Kind 0", block.Put(s, i, formless), api.ErrForm)
		}
		for _, n := range []int{api.Payload + 2, 114, 115, api.Sector, 256, 256 + 3, 1 << 16} {
			answers(t, what+": too long", block.Put(s, 0, block.Block{Kind: 1, Data: make([]byte, n)}), api.ErrLong)
		}
	}
	refused("on")
	if s.Steps() != 0 || s.Way() != 0 {
		t.Errorf("what is refused is written: %d, %d", s.Steps(), s.Way())
	}
	s.Arm(1)
	answers(t, "the armed step", block.Put(s, 1, short), api.ErrDown)
	if s.Steps() != 1 || s.Way() != 1 || s.On() {
		t.Error("the armed step:", s.Steps(), s.Way(), s.On())
	}
	refused("off")
	answers(t, "off", block.Put(s, 1, short), api.ErrDown)
	s.Crash([]byte{1}, 0)
	gets(t, "the armed step", s, 1, short)
	getsNone(t, "refused", s, 0, api.ErrNone)

	for _, b := range []block.Block{short, long, formless, both} {
		for _, i := range []int{-1, 0, 5} {
			answers(t, "nil", block.Put(nil, i, b), api.ErrNone)
		}
	}
}

func TestGetRefused(t *testing.T) {
	s := made(t, 2)
	for _, i := range []int{math.MinInt, -1, 2, api.MaxSectors, math.MaxInt} {
		getsNone(t, "no such sector", s, i, api.ErrArg)
		getsNone(t, "nil", nil, i, api.ErrNone)
	}
	getsNone(t, "nil", nil, 0, api.ErrNone)
	block.Put(s, 0, block.Block{Kind: 1})
	s.Write(1, []byte{1})
	s.Flush()
	s.Arm(1)
	s.Flush()
	getsNone(t, "off", s, 0, api.ErrDown)
	getsNone(t, "off", s, 1, api.ErrDown)
	getsNone(t, "off", s, 2, api.ErrArg)
}

func TestGetOfNoughts(t *testing.T) {
	s := made(t, 1)
	getsNone(t, "new", s, 0, api.ErrNone)
	block.Put(s, 0, block.Block{Kind: 1})
	s.Write(0, nil)
	getsNone(t, "written with noughts", s, 0, api.ErrNone)
	for i := range api.Sector {
		p := make([]byte, api.Sector)
		p[i] = 1
		s.Write(0, p)
		getsNone(t, "noughts but one", s, 0, api.ErrSum)
	}
}

func TestGetOfTurnedBits(t *testing.T) {
	s := made(t, 1)
	for _, b := range []block.Block{{Kind: 7, Epoch: 1, A: 2, B: 3, Data: []byte("ab")}, {Kind: 1}, {Kind: 9, Data: pattern(api.Payload, 1)}} {
		for bit := range 8 * api.Sector {
			p := model(b)
			p[bit/8] ^= 1 << (bit % 8)
			s.Write(0, p)
			getsNone(t, "a bit is turned", s, 0, api.ErrSum)
		}
	}
}

// TestSumGoesAheadOfForm: what is none, and has a wrong sum besides.
func TestSumGoesAheadOfForm(t *testing.T) {
	s := made(t, 1)
	p := summed([]byte{0, 200})
	p[127] ^= 1
	s.Write(0, p)
	getsNone(t, "both", s, 0, api.ErrSum)
}

func TestGetOfNoBlock(t *testing.T) {
	s := made(t, 1)
	formless := func(what string, p []byte) {
		t.Helper()
		s.Write(0, summed(p))
		getsNone(t, what, s, 0, api.ErrForm)
	}
	formless("noughts, and their sum", nil)
	formless("of Kind 0", []byte{0, 2, 1, 0, 0, 0, 2, 0, 0, 0, 3, 0, 0, 0, 'a', 'b'})
	for n := api.Payload + 1; n < 256; n++ {
		formless("of too many bytes", []byte{7, byte(n)})
		formless("of too many bytes", append([]byte{7, byte(n)}, pattern(122, n)...))
	}
	for n := range api.Payload + 1 {
		for i := 14 + n; i < 124; i++ {
			p := make([]byte, 124)
			p[0], p[1], p[i] = 7, byte(n), 1
			formless("with a byte behind its own", p)
		}
	}
	s.Write(0, summed([]byte{7, 2, 1, 0, 0, 0, 2, 0, 0, 0, 3, 0, 0, 0, 'a', 'b'}))
	gets(t, "one that is none of these", s, 0, block.Block{Kind: 7, Epoch: 1, A: 2, B: 3, Data: []byte("ab")})
}

// scribble writes over p and its spare room.
func scribble(p []byte) {
	p = p[:cap(p)]
	for i := range p {
		p[i] ^= 0xa5
	}
}

func TestMemoryIsNotShared(t *testing.T) {
	s := made(t, 1)
	room := pattern(60, 4)
	b := block.Block{Kind: 7, Data: room[:20]}
	answers(t, "Put", block.Put(s, 0, b), api.OK)
	if !bytes.Equal(room, pattern(60, 4)) {
		t.Error("Put changed what it was handed")
	}
	scribble(room)
	want := block.Block{Kind: 7, Data: pattern(20, 4)}
	gets(t, "behind a scribble on what was put", s, 0, want)
	first, _ := block.Get(s, 0)
	second, _ := block.Get(s, 0)
	scribble(first.Data)
	if !same(second, want) {
		t.Error("two answers share")
	}
	gets(t, "behind a scribble on what was got", s, 0, want)
	block.Put(s, 0, block.Block{Kind: 8, Data: pattern(20, 9)})
	if !same(second, want) {
		t.Error("an answer changed behind its call")
	}
}
