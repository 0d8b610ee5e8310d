package block_test

import (
	"bytes"
	"math"
	"testing"

	"quadrille/api"
	"quadrille/block"
	"quadrille/slab"
)

// rootBlock answers the block of a root, as the chapter says it.
func rootBlock(r block.Root) block.Block {
	return block.Block{Kind: 1, Epoch: r.Epoch, A: r.Turn, B: r.Gen, Data: []byte{r.Area}}
}

// loads fails the test unless Load answers the root.
func loads(t *testing.T, what string, s *slab.Slab, want block.Root) {
	t.Helper()
	if r, e := block.Load(s); e != api.OK || r != want {
		t.Errorf("%s: Load: error %d, %v; want %v", what, e, r, want)
	}
}

// loadsNone fails the test unless Load answers that error, and nothing beside it.
func loadsNone(t *testing.T, what string, s *slab.Slab, want api.Errno) {
	t.Helper()
	if r, e := block.Load(s); e != want || r != (block.Root{}) {
		t.Errorf("%s: Load: error %d, %v; want error %d", what, e, r, want)
	}
}

func TestStoreWritesToItsSector(t *testing.T) {
	for _, r := range []block.Root{
		{},
		{Turn: 1, Epoch: 5, Gen: 1},
		{Turn: 2, Epoch: 6, Gen: 1, Area: 1},
		{Turn: 0x04030201, Epoch: 0x08070605, Gen: 0x0c0b0a09, Area: 1},
		{Turn: math.MaxUint32 - 1, Epoch: math.MaxUint32, Gen: math.MaxUint32, Area: 1},
		{Turn: math.MaxUint32, Epoch: math.MaxUint32, Gen: math.MaxUint32},
	} {
		s := made(t, 3)
		answers(t, "Store", block.Store(s, r), api.OK)
		at := int(r.Turn & 1)
		p, _ := s.Read(at)
		if !bytes.Equal(p, model(rootBlock(r))) {
			t.Errorf("Store of %v: % x; want % x", r, p, model(rootBlock(r)))
		}
		getsNone(t, "the other sector", s, 1-at, api.ErrNone)
		getsNone(t, "the sector behind", s, 2, api.ErrNone)
		if s.Steps() != 2 || s.Way() != 0 {
			t.Errorf("Store: %d steps, %d writes under way", s.Steps(), s.Way())
		}
		loads(t, "stored", s, r)
		s.Crash(nil, 0)
		loads(t, "behind a crash", s, r)
	}
}

func TestLoadTellsTheGreaterTurn(t *testing.T) {
	turns := []uint32{0, 1, 2, 3, 4, 255, 256, 257, 1 << 31, 1<<31 + 1, math.MaxUint32 - 1, math.MaxUint32}
	for _, a := range turns {
		for _, b := range turns {
			if a%2 == b%2 {
				continue
			}
			s := made(t, 2)
			one := block.Root{Turn: a, Epoch: 9, Gen: 3, Area: 1}
			other := block.Root{Turn: b, Epoch: 8, Gen: 7}
			answers(t, "Store", block.Store(s, one), api.OK)
			loads(t, "alone", s, one)
			answers(t, "Store", block.Store(s, other), api.OK)
			if a > b {
				loads(t, "the one", s, one)
			} else {
				loads(t, "the other", s, other)
			}
		}
	}
}

func TestStoreInTurns(t *testing.T) {
	s := made(t, 2)
	loadsNone(t, "nothing is stored", s, api.ErrForm)
	for turn := range uint32(20) {
		r := block.Root{Turn: turn, Epoch: turn * 3, Gen: turn / 2, Area: byte(turn / 3 % 2)}
		answers(t, "Store", block.Store(s, r), api.OK)
		loads(t, "the last one", s, r)
	}
}

// TestLoadPassesOver: what isn't a root, beside one and alone.
func TestLoadPassesOver(t *testing.T) {
	const turn = 6 // of what is none; it would be the greater one
	none := map[string][]byte{
		"noughts":             nil,
		"a wrong sum":         pattern(api.Sector, 1),
		"no block":            summed([]byte{0, 1}),
		"a kind 0":            summed([]byte{0, 1, 0, 0, 0, 0, turn, 0, 0, 0, 0, 0, 0, 0, 1}),
		"another kind":        model(block.Block{Kind: 2, A: turn, Data: []byte{1}}),
		"the greatest kind":   model(block.Block{Kind: 255, A: turn, Data: []byte{1}}),
		"no byte":             model(block.Block{Kind: 1, A: turn}),
		"two bytes":           model(block.Block{Kind: 1, A: turn, Data: []byte{1, 0}}),
		"many bytes":          model(block.Block{Kind: 1, A: turn, Data: make([]byte, api.Payload)}),
		"Area 2":              model(block.Block{Kind: 1, A: turn, Data: []byte{2}}),
		"Area 255":            model(block.Block{Kind: 1, A: turn, Data: []byte{255}}),
		"on the wrong sector": model(block.Block{Kind: 1, A: turn + 1, Data: []byte{1}}),
	}
	turned := model(rootBlock(block.Root{Turn: turn}))
	turned[14] ^= 1
	none["a bit turned"] = turned
	for what, p := range none {
		s := made(t, 2)
		s.Write(0, p)
		loadsNone(t, what, s, api.ErrForm)
		r := block.Root{Turn: 3, Epoch: 4, Gen: 5, Area: 1}
		answers(t, "Store", block.Store(s, r), api.OK)
		loads(t, what, s, r)
	}
	s := made(t, 2)
	s.Write(1, model(rootBlock(block.Root{Turn: 8})))
	loadsNone(t, "an even Turn on the sector 1", s, api.ErrForm)
	s.Write(0, model(rootBlock(block.Root{})))
	loads(t, "a Turn of 0 beside it", s, block.Root{})
}

func TestLoadReadsTheFirstTwoAlone(t *testing.T) {
	s := made(t, 5)
	r := block.Root{Turn: 3, Epoch: 1}
	block.Store(s, r)
	for i := 2; i < 5; i++ {
		s.Write(i, model(rootBlock(block.Root{Turn: uint32(100 + i)})))
	}
	steps := s.Steps()
	loads(t, "others behind", s, r)
	if s.Steps() != steps {
		t.Error("Load is a step")
	}
}

func TestLoadRefused(t *testing.T) {
	loadsNone(t, "nil", nil, api.ErrNone)
	s := made(t, 1)
	loadsNone(t, "one sector", s, api.ErrArg)
	answers(t, "Store on the one sector", block.Store(s, block.Root{Turn: 2}), api.OK)
	loadsNone(t, "one sector", s, api.ErrArg)
	s.Arm(1)
	s.Flush()
	loadsNone(t, "one sector, off", s, api.ErrDown)

	s = made(t, 2)
	block.Store(s, block.Root{})
	s.Arm(1)
	s.Flush()
	loadsNone(t, "off", s, api.ErrDown)
	s.Crash(nil, 0)
	loads(t, "on again", s, block.Root{})
}

func TestStoreRefused(t *testing.T) {
	for _, area := range []byte{0, 1, 2, 255} {
		for _, turn := range []uint32{0, 1} {
			answers(t, "nil", block.Store(nil, block.Root{Turn: turn, Area: area}), api.ErrNone)
		}
	}
	s := made(t, 1)
	for area := 2; area < 256; area++ {
		for turn := range uint32(2) {
			answers(t, "no such area", block.Store(s, block.Root{Turn: turn, Area: byte(area)}), api.ErrForm)
		}
	}
	answers(t, "no such sector", block.Store(s, block.Root{Turn: 1}), api.ErrArg)
	if s.Steps() != 0 || s.Way() != 0 {
		t.Error("what is refused is written:", s.Steps(), s.Way())
	}
	s.Arm(1)
	answers(t, "the power goes at the write", block.Store(s, block.Root{Turn: 2}), api.ErrDown)
	if s.Steps() != 1 || s.Way() != 1 {
		t.Error("the power goes at the write:", s.Steps(), s.Way())
	}
	answers(t, "off: no such area", block.Store(s, block.Root{Area: 2}), api.ErrForm)
	answers(t, "off: no such sector", block.Store(s, block.Root{Turn: 1}), api.ErrArg)
	answers(t, "off", block.Store(s, block.Root{}), api.ErrDown)
	s.Crash(nil, 0)
	s.Arm(2)
	answers(t, "the power goes at the flush", block.Store(s, block.Root{Turn: 2}), api.ErrDown)
	if s.Steps() != 3 || s.Way() != 1 {
		t.Error("the power goes at the flush:", s.Steps(), s.Way())
	}
}

// TestStoreCut: wherever the power goes, and whatever becomes of the write, there is the root that was, or the new one.
func TestStoreCut(t *testing.T) {
	old := block.Root{Turn: 7, Epoch: 3, Gen: 2, Area: 1}
	next := block.Root{Turn: 8, Epoch: 4, Gen: 2, Area: 1}
	for at := 1; at <= 2; at++ {
		for fate := range 4 {
			for cut := range api.Sector + 1 {
				s := made(t, 2)
				block.Store(s, block.Root{Turn: 6, Epoch: 2, Gen: 1})
				block.Store(s, old)
				s.Arm(at)
				answers(t, "Store", block.Store(s, next), api.ErrDown)
				s.Crash([]byte{byte(fate)}, cut)
				switch {
				case fate == 0 || fate == 2 && cut == 0 || fate == 3 && cut == api.Sector:
					loads(t, "lost", s, old)
				case fate == 1 || fate == 2 && cut == api.Sector || fate == 3 && cut == 0:
					loads(t, "done", s, next)
				default:
					if r, e := block.Load(s); e != api.OK || r != old && r != next {
						t.Errorf("fate %d, cut %d: error %d, %v", fate, cut, e, r)
					}
				}
			}
		}
	}
}
