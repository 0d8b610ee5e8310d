package scroll_test

import (
	"bytes"
	"math"
	"math/rand"
	"slices"
	"testing"

	"quadrille/api"
	"quadrille/block"
	"quadrille/slab"
)

const (
	readSize  = 9
	readGen   = 6
	readEpoch = 20
)

// part is a block that a test lays.
type part struct {
	kind  byte
	epoch uint32
	gen   uint32
	place uint32
	data  []byte
}

// right answers the parts of batches, as they would be written from the place 0 on, the k-th batch in the epoch epochs[k].
func right(epochs []uint32, batches ...[][]byte) []part {
	var l []part
	for k, b := range batches {
		all := parts(b)
		for i, p := range all {
			x := part{kind: 2, epoch: epochs[k], gen: readGen, place: uint32(len(l)), data: p}
			if i == len(all)-1 {
				x.kind = 3
			}
			l = append(l, x)
		}
	}
	return l
}

// put answers a slab with a root, and these parts in its area (the sectors of the other one have what they would have there).
func put(t *testing.T, area byte, l []part) *slab.Slab {
	t.Helper()
	s := made(t, 2+2*readSize)
	other := (1 - int(area)) * readSize
	for i, x := range l {
		at := 2 + int(area)*readSize + i
		s.Write(at, sector(x.kind, x.epoch, x.gen, x.place, x.data))
		s.Write(2+other+i, sector(x.kind, x.epoch, x.gen-1, x.place, x.data))
	}
	answers(t, "Store", block.Store(s, block.Root{Turn: 4, Epoch: readEpoch, Gen: readGen, Area: area}), api.OK)
	return s
}

// finds fails the test unless Open finds these records behind the snapshot, on so many places.
func finds(t *testing.T, what string, l []part, snapshot []byte, records [][]byte, used int) {
	t.Helper()
	for area := range byte(2) {
		s := put(t, area, l)
		m := &log{size: readSize, turn: 4, epoch: readEpoch, gen: readGen, area: int(area), used: used, snapshot: snapshot, records: slices.Clone(records)}
		for i := range s.Len() {
			p, _ := s.Read(i)
			m.sectors = append(m.sectors, p)
		}
		c := m.opened(t, what, s)
		if used < readSize {
			adds(t, what+", a batch behind it", s, c, m, list(77, 3))
		}
		c = m.opened(t, what+", opened again", s)
		compacts(t, what, s, c, m, []byte("anew"))
	}
}

// findsNone fails the test unless Open answers ErrForm, and has written nothing.
func findsNone(t *testing.T, what string, l []part) {
	t.Helper()
	for area := range byte(2) {
		s := put(t, area, l)
		steps := s.Steps()
		s.Arm(1)
		opensNot(t, what, s, readSize, api.ErrForm)
		if s.Steps() != steps {
			t.Errorf("%s: what is refused is a step", what)
		}
	}
}

func TestWhatIsThere(t *testing.T) {
	snapshot, a, b, c := pattern(150, 1), list(2, 5, 6), list(4, 250), list(5, 90, 0)
	l := right([]uint32{3, 3, 5, 8}, [][]byte{snapshot}, a, b, c)
	ab := append(list(2, 5, 6), b...)
	finds(t, "all", l, snapshot, append(list(2, 5, 6), append(list(4, 250), c...)...), 7)
	finds(t, "no last batch", l[:6], snapshot, ab, 6)
	finds(t, "a batch without its last part", l[:5], snapshot, a, 3)
	finds(t, "a batch of its first part", l[:4], snapshot, a, 3)
	finds(t, "one batch", l[:3], snapshot, a, 3)
	finds(t, "the snapshot", l[:2], snapshot, nil, 2)
	findsNone(t, "a snapshot without its last part", l[:1])
	findsNone(t, "nothing", nil)
}

// faults answers what can be wrong with a part.
func faults() map[string]func(*part) {
	return map[string]func(*part){
		"kind 1":           func(x *part) { x.kind = 1 },
		"kind 4":           func(x *part) { x.kind = 4 },
		"kind 5":           func(x *part) { x.kind = 5 },
		"kind 255":         func(x *part) { x.kind = 255 },
		"no block":         func(x *part) { x.kind = 0 },
		"Gen before":       func(x *part) { x.gen-- },
		"Gen behind":       func(x *part) { x.gen++ },
		"Gen 0":            func(x *part) { x.gen = 0 },
		"the last Gen":     func(x *part) { x.gen = math.MaxUint32 },
		"the place ahead":  func(x *part) { x.place-- },
		"the place behind": func(x *part) { x.place++ },
		"a place far away": func(x *part) { x.place += 1 << 31 },
		"an epoch below":   func(x *part) { x.epoch-- },
		"epoch 0":          func(x *part) { x.epoch = 0 },
	}
}

func TestNotSo(t *testing.T) {
	snapshot, a, b, c := pattern(150, 1), list(2, 5, 6), list(4, 250), list(5, 90, 0)
	ab := append(list(2, 5, 6), b...)
	for what, spoil := range faults() {
		for k := range 7 {
			l := right([]uint32{3, 3, 3, 3}, [][]byte{snapshot}, a, b, c)
			spoil(&l[k])
			switch {
			case k < 2: // ahead of the first part there is no epoch; but the second one is of another then
				findsNone(t, what, l)
			case k == 2:
				finds(t, what, l, snapshot, nil, 2)
			case k < 6:
				finds(t, what, l, snapshot, a, 3)
			default:
				finds(t, what, l, snapshot, ab, 6)
			}
		}
	}
}

func TestEpochsRise(t *testing.T) {
	one, a, b, c := []byte("one"), list(1, 5), list(2, 6), list(3, 7)
	abc := append(append(list(1, 5), b...), c...)
	for _, x := range []struct {
		epochs []uint32
		want   [][]byte
	}{
		{[]uint32{0, 0, 0, 0}, abc},
		{[]uint32{0, 1, 2, 3}, abc},
		{[]uint32{7, 7, 7, 7}, abc},
		{[]uint32{7, 7, 8, 8}, abc},
		{[]uint32{0, 0, 0, readEpoch}, abc},
		{[]uint32{0, 19, 20, 20}, abc},
		{[]uint32{1, 0, 1, 2}, nil},
		{[]uint32{7, 7, 6, 7}, a},
		{[]uint32{7, 9, 8, 9}, a},
		{[]uint32{7, 9, 8, 10}, a},
		{[]uint32{7, 8, 9, 7}, abc[:2]},
		{[]uint32{7, 8, 9, 8}, abc[:2]},
		{[]uint32{20, 20, 20, 0}, abc[:2]},
	} {
		finds(t, "epochs", right(x.epochs, [][]byte{one}, a, b, c), one, x.want, 1+len(x.want))
	}
}

// TestOneBatchOneEpoch: though the epochs rise.
func TestOneBatchOneEpoch(t *testing.T) {
	one, a := []byte("one"), list(1, 290)
	for _, epochs := range [][3]uint32{{4, 4, 5}, {4, 5, 5}, {4, 5, 6}, {5, 4, 4}, {5, 5, 4}, {5, 4, 5}, {4, 5, 4}} {
		l := right([]uint32{4, 4}, [][]byte{one}, a)
		for k, epoch := range epochs {
			l[1+k].epoch = epoch
		}
		finds(t, "epochs in a batch", l, one, nil, 1)
		l = right([]uint32{4, 6}, [][]byte{pattern(290, 1)}, a)
		for k, epoch := range epochs {
			l[k].epoch = epoch
		}
		findsNone(t, "epochs in the snapshot", l)
	}
}

func TestFirstPartsAreFull(t *testing.T) {
	one, big := []byte("one"), pattern(290, 1)
	for _, n := range []int{0, 1, 50, 102, 103} {
		l := right([]uint32{4, 4, 4}, [][]byte{one}, list(1, 290), list(2, 7))
		l[2].data = l[2].data[:n]
		finds(t, "a part that isn't full", l, one, nil, 1)
		l[1].data = l[1].data[:n]
		finds(t, "two that aren't", l, one, nil, 1)
		l = right([]uint32{4}, [][]byte{big})
		l[0].data = l[0].data[:n]
		findsNone(t, "a part of the snapshot that isn't full", l)
	}
	finds(t, "a last part that is full", right([]uint32{4, 4}, [][]byte{pattern(103, 1)}, list(1, 206)), pattern(103, 1), list(1, 206), 3)
}

func TestFirstBatchIsASnapshot(t *testing.T) {
	for what, p := range map[string][]byte{
		"none":                 {},
		"two":                  {1, 5, 0},
		"two of nothing":       {0, 0},
		"a text that is short": {3, 1, 2},
		"a text, and a part":   {1, 2, 4},
		"no number":            {0x80, 0},
		"a number's front":     {0x80},
	} {
		findsNone(t, what, []part{{kind: 3, epoch: 2, gen: readGen, data: p}})
		findsNone(t, what, append([]part{{kind: 3, epoch: 2, gen: readGen, data: p}}, right([]uint32{2, 2}, list(1, 1), list(2, 1))[1:]...))
	}
	for what, p := range map[string][]byte{"nothing": {0}, "one": {1, 0}, "two": {2, 0, 0}} {
		finds(t, what, []part{{kind: 3, epoch: 2, gen: readGen, data: p}}, p[1:], nil, 1)
	}
}

// TestBytesThatAreNoBatch: what isn't put together as texts ends what is there.
func TestBytesThatAreNoBatch(t *testing.T) {
	one := []byte("one")
	for _, p := range [][]byte{{3, 1, 2}, {1, 2, 4}, {0x80, 0}, {0, 0x80}, {5}} {
		l := right([]uint32{2, 2, 2, 2}, [][]byte{one}, list(1, 5), list(2, 6), list(3, 7))
		l[2].data = p
		finds(t, "no texts", l, one, list(1, 5), 2)
	}
	l := right([]uint32{2, 2, 2}, [][]byte{one}, list(1, 5), list(3, 7))
	l[1].data = nil
	finds(t, "no records", l, one, list(3, 7), 3)
}

// TestAreasEnd: a batch doesn't go on in the other area, nor behind the last one.
func TestAreasEnd(t *testing.T) {
	one := []byte("one")
	l := right([]uint32{2, 2}, [][]byte{one}, list(1, 104*readSize))
	if len(l) <= readSize {
		t.Fatal("the batch is too short")
	}
	for area := range byte(2) {
		s := made(t, 40)
		for i, x := range l {
			s.Write(2+int(area)*readSize+i, sector(x.kind, x.epoch, x.gen, x.place, x.data))
		}
		answers(t, "Store", block.Store(s, block.Root{Turn: 4, Epoch: readEpoch, Gen: readGen, Area: area}), api.OK)
		m := &log{size: readSize, epoch: readEpoch + 1, used: 1, snapshot: one}
		m.openedAs(t, "a batch that goes on", s)
	}
}

// modelRead answers what is there by the sectors of an area: the records of each batch, and how many places they take.
func modelRead(sectors [][]byte, gen uint32) (batches [][][]byte, used int) {
	var run []part
	last := uint32(0)
	for i, p := range sectors {
		x, ok := modelPart(p)
		if !ok || x.gen != gen || x.place != uint32(i) || x.epoch < last {
			return
		}
		if len(run) > 0 && run[0].epoch != x.epoch {
			return
		}
		last = x.epoch
		run = append(run, x)
		if x.kind == 2 {
			continue
		}
		var all []byte
		for _, y := range run {
			all = append(all, y.data...)
		}
		l, ok := modelTexts(all)
		if !ok {
			return
		}
		batches, used, run = append(batches, l), i+1, nil
	}
	return
}

// modelPart answers the part that a sector's bytes are.
func modelPart(p []byte) (part, bool) {
	n := int(p[1])
	if n > 104 || p[0] != 2 && p[0] != 3 || p[0] == 2 && n != 104 {
		return part{}, false
	}
	word := func(i int) uint32 {
		return uint32(p[i]) | uint32(p[i+1])<<8 | uint32(p[i+2])<<16 | uint32(p[i+3])<<24
	}
	x := part{kind: p[0], epoch: word(2), gen: word(6), place: word(10), data: p[14 : 14+n]}
	return x, bytes.Equal(sector(x.kind, x.epoch, x.gen, x.place, x.data), p)
}

// modelTexts answers the texts that the bytes are, if they are such.
func modelTexts(p []byte) ([][]byte, bool) {
	var l [][]byte
	for len(p) > 0 {
		n, size := 0, 0
		for shift := 0; ; shift += 7 {
			if size == len(p) || shift > 14 {
				return nil, false
			}
			n |= int(p[size]&0x7f) << shift
			size++
			if p[size-1] < 0x80 {
				break
			}
		}
		if size > 1 && p[size-1] == 0 || n > len(p)-size {
			return nil, false
		}
		l = append(l, p[size:size+n])
		p = p[size+n:]
	}
	return l, true
}

// TestAnyParts: areas of parts of all sorts are read as the model reads them.
func TestAnyParts(t *testing.T) {
	r := rand.New(rand.NewSource(7))
	there := 0
	for range 4000 {
		var l []part
		for i := range readSize {
			x := part{kind: 2 + byte(r.Intn(2)), epoch: uint32(3 + r.Intn(2)), gen: readGen, place: uint32(i)}
			x.data = make([]byte, 104)
			if r.Intn(2) == 0 {
				x.data = append([]byte{103}, x.data[1:]...)
			}
			if x.kind == 3 && r.Intn(2) == 0 {
				x.data = x.data[:1]
				x.data[0] = 0
			}
			switch r.Intn(30) {
			case 0:
				x.kind = byte(r.Intn(6))
			case 1:
				x.gen += uint32(r.Intn(3)) - 1
			case 2:
				x.place += uint32(r.Intn(3)) - 1
			case 3:
				x.data = x.data[:r.Intn(len(x.data)+1)]
			}
			l = append(l, x)
		}
		var sectors [][]byte
		for _, x := range l {
			sectors = append(sectors, sector(x.kind, x.epoch, x.gen, x.place, x.data))
		}
		batches, used := modelRead(sectors, readGen)
		if len(batches) == 0 || len(batches[0]) != 1 {
			findsNone(t, "any parts", l)
			continue
		}
		var records [][]byte
		for _, b := range batches[1:] {
			records = append(records, b...)
		}
		finds(t, "any parts", l, batches[0][0], records, used)
		there += used
	}
	if there < 1000 {
		t.Error("hardly anything was there:", there)
	}
}
