package block

import (
	"quadrille/api"
	"quadrille/slab"
)

const (
	rootKind    = 1
	rootSectors = 2 // they take turns, so that a torn one leaves the other
	areas       = 2
)

// Root is where all begins.
type Root struct {
	Turn  uint32
	Epoch uint32
	Gen   uint32
	Area  byte
}

// Load answers the root of the greater Turn.
func Load(s *slab.Slab) (Root, api.Errno) {
	var last Root
	found := false
	for i := range rootSectors {
		p, e := s.Read(i)
		if e != api.OK {
			return Root{}, e
		}
		b, e := said(p)
		if e != api.OK || !b.isRoot(i) {
			continue
		}
		if !found || b.A > last.Turn {
			last = Root{Turn: b.A, Epoch: b.Epoch, Gen: b.B, Area: b.Data[0]}
		}
		found = true
	}
	if !found {
		return Root{}, api.ErrForm
	}
	return last, api.OK
}

// Store writes the root to the sector whose turn it is, and flushes it.
func Store(s *slab.Slab, r Root) api.Errno {
	if s == nil {
		return api.ErrNone
	}
	if r.Area >= areas {
		return api.ErrForm
	}
	b := Block{Kind: rootKind, Epoch: r.Epoch, A: r.Turn, B: r.Gen, Data: []byte{r.Area}}
	if e := Put(s, rootSector(r.Turn), b); e != api.OK {
		return e
	}
	return s.Flush()
}

// rootSector answers on which sector the root of that turn stands.
func rootSector(turn uint32) int {
	return int(turn % rootSectors)
}

// isRoot answers whether the block on the sector i is a root.
func (b Block) isRoot(i int) bool {
	return b.Kind == rootKind && len(b.Data) == 1 && b.Data[0] < areas && rootSector(b.A) == i
}
