package scroll

import (
	"math"

	"quadrille/api"
	"quadrille/block"
	"quadrille/slab"
)

const (
	partKind = 2
	lastKind = 3
)

const (
	rootSectors = 2 // the areas stand behind them
	areas       = 2
)

// area is the one that the root tells of.
type area struct {
	slab *slab.Slab
	size int
	root block.Root
}

// fits answers ErrNone or ErrArg where there is no slab for a scroll with areas of that size.
func fits(s *slab.Slab, size int) api.Errno {
	switch {
	case s == nil:
		return api.ErrNone
	case size < 1 || size > (s.Len()-rootSectors)/areas:
		return api.ErrArg
	}
	return api.OK
}

// other answers the other area, in the next generation; false: there is none any more.
func (a area) other() (area, bool) {
	if a.root.Gen == math.MaxUint32 || a.root.Turn == math.MaxUint32 {
		return area{}, false
	}
	a.root.Turn++
	a.root.Gen++
	a.root.Area = (a.root.Area + 1) % areas
	return a, true
}

// sector answers that of a place.
func (a area) sector(place int) int {
	return rootSectors + int(a.root.Area)*a.size + place
}

// begin writes that snapshot to the area, and then the root, which tells of it.
func (a area) begin(snapshot []byte) api.Errno {
	if e := a.write(0, [][]byte{snapshot}); e != api.OK {
		return e
	}
	return block.Store(a.slab, a.root)
}

// write puts a batch of these records on the places from that one on, and flushes it.
func (a area) write(place int, l [][]byte) api.Errno {
	p := together(l)
	for len(p) > api.Payload {
		if e := a.put(place, partKind, p[:api.Payload]); e != api.OK {
			return e
		}
		p = p[api.Payload:]
		place++
	}
	if e := a.put(place, lastKind, p); e != api.OK {
		return e
	}
	return a.slab.Flush()
}

// put writes a part.
func (a area) put(place int, kind byte, data []byte) api.Errno {
	b := block.Block{Kind: kind, Epoch: a.root.Epoch, A: a.root.Gen, B: uint32(place), Data: data}
	return block.Put(a.slab, a.sector(place), b)
}

// read answers the batches that are there, and how many places they take.
func (a area) read() (batches [][][]byte, used int) {
	var begun []byte // the parts so far of a batch whose last one is still to come
	var epoch uint32 // of the part ahead
	for place := range a.size {
		b, ok := a.part(place)
		if !ok || b.Epoch < epoch || len(begun) > 0 && b.Epoch != epoch {
			break
		}
		epoch = b.Epoch
		begun = append(begun, b.Data...)
		if b.Kind == partKind {
			continue
		}
		l, ok := apart(begun)
		if !ok {
			break
		}
		batches = append(batches, l)
		used = place + 1
		begun = nil
	}
	return batches, used
}

// part answers the block of a place; false: it is no part of this generation that belongs there.
func (a area) part(place int) (block.Block, bool) {
	b, e := block.Get(a.slab, a.sector(place))
	if e != api.OK || b.A != a.root.Gen || b.B != uint32(place) {
		return block.Block{}, false
	}
	isPart := b.Kind == partKind && len(b.Data) == api.Payload
	return b, isPart || b.Kind == lastKind
}
