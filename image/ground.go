package image

import (
	"quadrille/api"
	"quadrille/block"
	"quadrille/slab"
)

const (
	blobKind = 5
	headKind = 6
)

// How many bytes the numbers of a head have.
const (
	creditBytes = 4
	ranksBytes  = 1
	placeBytes  = 2
	frontBytes  = creditBytes + ranksBytes // of all ahead of the places
)

// standing is an image, and where it stands.
type standing struct {
	image  Image
	places []int // of its blobs, by their ranks, and behind them of its head
}

// ground is sectors of a slab, the first of which is the place 0.
type ground struct {
	slab  *slab.Slab
	from  int
	epoch uint32 // of what is written there
}

// write puts an image's blobs there, and, once these last, its head.
func (g ground) write(x standing) api.Errno {
	head := len(x.image.Blobs)
	for rank, blob := range x.image.Blobs {
		if e := g.put(x, x.places[rank], blobKind, blobData(rank, blob)); e != api.OK {
			return e
		}
	}
	if e := g.slab.Flush(); e != api.OK {
		return e
	}
	if e := g.put(x, x.places[head], headKind, headData(x.image.Credit, x.places[:head])); e != api.OK {
		return e
	}
	return g.slab.Flush()
}

// put writes a block of an image.
func (g ground) put(x standing, place int, kind byte, data []byte) api.Errno {
	return block.Put(g.slab, g.from+place, block.Block{Kind: kind, Epoch: g.epoch, A: x.image.Job, B: x.image.Ver, Data: data})
}

// wipe takes away an image's head, without which it isn't there.
func (g ground) wipe(x standing) api.Errno {
	head := x.places[len(x.places)-1]
	if e := g.slab.Write(g.from+head, nil); e != api.OK {
		return e
	}
	return g.slab.Flush()
}

// read answers the blocks of n places, the zero one where there is none.
func (g ground) read(n int) []block.Block {
	l := make([]block.Block, n)
	for place := range l {
		l[place], _ = block.Get(g.slab, g.from+place)
	}
	return l
}

// newest answers the jobs' images among these blocks.
func newest(l []block.Block) map[uint32]standing {
	jobs := map[uint32]standing{}
	for place := range l {
		x, ok := find(l, place)
		if !ok {
			continue
		}
		if old, has := jobs[x.image.Job]; !has || x.image.Ver > old.image.Ver {
			jobs[x.image.Job] = x
		}
	}
	return jobs
}

// find answers the image whose head stands at that place; false: none is there.
func find(l []block.Block, place int) (standing, bool) {
	head := l[place]
	credit, places, ok := readHead(head)
	if !ok {
		return standing{}, false
	}
	x := Image{Job: head.A, Ver: head.B, Credit: credit}
	for rank, at := range places {
		if at >= len(l) || !isBlob(l[at], head, rank) {
			return standing{}, false
		}
		x.Blobs = append(x.Blobs, l[at].Data[1:])
	}
	return standing{image: x, places: append(places, place)}, true
}

// isBlob answers whether a block is that rank's of the image of that head.
func isBlob(b, head block.Block, rank int) bool {
	isOfIt := b.Kind == blobKind && b.Epoch == head.Epoch && b.A == head.A && b.B == head.B
	return isOfIt && len(b.Data) > 0 && int(b.Data[0]) == rank
}

// blobData answers the bytes of a blob's block.
func blobData(rank int, blob []byte) []byte {
	return append([]byte{byte(rank)}, blob...)
}

// headData answers the bytes of a head's block.
func headData(credit int, places []int) []byte {
	p := appendLow(nil, uint32(credit), creditBytes)
	p = appendLow(p, uint32(len(places)), ranksBytes)
	for _, place := range places {
		p = appendLow(p, uint32(place), placeBytes)
	}
	return p
}

// readHead answers what a head tells: the credit, and the blobs' places; false: it is none.
func readHead(b block.Block) (credit int, places []int, ok bool) {
	if b.Kind != headKind || b.A == 0 || len(b.Data) < frontBytes {
		return 0, nil, false
	}
	told := low(b.Data[:creditBytes])
	ranks := int(low(b.Data[creditBytes:frontBytes]))
	p := b.Data[frontBytes:]
	if told > api.MaxWall || ranks < 1 || ranks > api.MaxNodes || len(p) != ranks*placeBytes {
		return 0, nil, false
	}
	for rank := range ranks {
		places = append(places, int(low(p[rank*placeBytes:(rank+1)*placeBytes])))
	}
	return int(told), places, true
}

// appendLow appends n as so many bytes, the lowest first.
func appendLow(p []byte, n uint32, size int) []byte {
	for range size {
		p = append(p, byte(n))
		n >>= 8
	}
	return p
}

// low answers the number that these bytes are, the lowest first.
func low(p []byte) uint32 {
	var n uint32
	for i, b := range p {
		n |= uint32(b) << (8 * i)
	}
	return n
}
