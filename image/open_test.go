package image_test

import (
	"math"
	"math/rand"
	"slices"
	"testing"

	"quadrille/api"
	"quadrille/image"
)

// lay answers a model of 12 sectors, on 2 to 9 of which images stand: x, its blobs and its head at these numbers.
func lay(epoch uint32, x image.Image, at ...int) *model {
	return blank(12, 2, 10, 0).lay(epoch, x, at...)
}

// lay has x there, too.
func (m *model) lay(epoch uint32, x image.Image, at ...int) *model {
	n := len(x.Blobs)
	for rank, i := range at[:n] {
		m.set(i, blobSector(epoch, x, rank))
	}
	m.set(at[n], headSector(epoch, x, at[:n]...))
	return m
}

// set has the sector of that number have these bytes.
func (m *model) set(i int, p []byte) {
	m.sectors[m.from+i] = p
}

// isTold fails the test unless Open tells just these images.
func (m *model) isTold(t *testing.T, what string, l ...image.Image) {
	t.Helper()
	s := slabOf(t, m)
	c := m.copied().opened(t, what, s, 77)
	if got := c.List(); len(got) != len(l) {
		t.Fatalf("%s: List %v, want %d", what, got, len(l))
	}
	left := m.to - m.from
	for _, x := range l {
		left -= len(x.Blobs) + 1
		if got, e := c.Get(x.Job); e != api.OK || !alike(got, x) {
			t.Fatalf("%s: error %d, %v; want %v", what, e, got, x)
		}
	}
	if got := c.Left(); got != left {
		t.Fatalf("%s: Left %d, want %d", what, got, left)
	}
}

func TestWhereImagesStand(t *testing.T) {
	x := one(5, 3, 7, 0, image.MaxBlob)
	for _, at := range [][]int{{0, 1, 2, 3}, {3, 2, 1, 0}, {7, 0, 3, 5}, {1, 7, 6, 2}, {0, 2, 4, 7}, {4, 5, 6, 7}} {
		lay(1, x, at...).isTold(t, "there", x)
		lay(1, x, at...).lay(2, one(6, 1, 4), free(at)...).isTold(t, "there, and another job's", x, one(6, 1, 4))
	}
}

// free answers two numbers that aren't among these.
func free(at []int) []int {
	var l []int
	for i := range 8 {
		if !slices.Contains(at, i) {
			l = append(l, i)
		}
	}
	return l[:2]
}

func TestWrongHeads(t *testing.T) {
	x := one(5, 3, 7, 8)
	right := func() *model { return lay(1, x, 4, 1, 3) }
	head := func(kind byte, epoch, job, ver uint32, p ...byte) []byte { return sector(kind, epoch, job, ver, p) }
	right().isTold(t, "right", x)
	credit := x.Credit
	x.Credit = 0x0304
	m := right()
	m.set(3, head(6, 1, 5, 3, 4, 3, 0, 0, 2, 4, 0, 1, 0))
	m.isTold(t, "right, by hand", x)
	x.Credit = credit
	for what, p := range map[string][]byte{
		"noughts":                 nil,
		"kind 5":                  head(5, 1, 5, 3, 4, 0, 0, 0, 2, 4, 0, 1, 0),
		"kind 7":                  head(7, 1, 5, 3, 4, 0, 0, 0, 2, 4, 0, 1, 0),
		"kind 2":                  head(2, 1, 5, 3, 4, 0, 0, 0, 2, 4, 0, 1, 0),
		"kind 255":                head(255, 1, 5, 3, 4, 0, 0, 0, 2, 4, 0, 1, 0),
		"epoch":                   head(6, 2, 5, 3, 4, 0, 0, 0, 2, 4, 0, 1, 0),
		"job":                     head(6, 1, 6, 3, 4, 0, 0, 0, 2, 4, 0, 1, 0),
		"version":                 head(6, 1, 5, 4, 4, 0, 0, 0, 2, 4, 0, 1, 0),
		"no bytes":                head(6, 1, 5, 3),
		"a byte":                  head(6, 1, 5, 3, 4),
		"four bytes":              head(6, 1, 5, 3, 4, 0, 0, 0),
		"no ranks":                head(6, 1, 5, 3, 4, 0, 0, 0, 0),
		"no ranks, but places":    head(6, 1, 5, 3, 4, 0, 0, 0, 0, 4, 0, 1, 0),
		"no places":               head(6, 1, 5, 3, 4, 0, 0, 0, 2),
		"a place too few":         head(6, 1, 5, 3, 4, 0, 0, 0, 2, 4, 0),
		"a byte too few":          head(6, 1, 5, 3, 4, 0, 0, 0, 2, 4, 0, 1),
		"a byte too many":         head(6, 1, 5, 3, 4, 0, 0, 0, 2, 4, 0, 1, 0, 0),
		"a place too many":        head(6, 1, 5, 3, 4, 0, 0, 0, 2, 4, 0, 1, 0, 5, 0),
		"a rank too many":         head(6, 1, 5, 3, 4, 0, 0, 0, 3, 4, 0, 1, 0, 5, 0),
		"a rank twice":            head(6, 1, 5, 3, 4, 0, 0, 0, 2, 4, 0, 4, 0),
		"places turned round":     head(6, 1, 5, 3, 4, 0, 0, 0, 2, 1, 0, 4, 0),
		"the head for a blob":     head(6, 1, 5, 3, 4, 0, 0, 0, 2, 4, 0, 3, 0),
		"a free one for a blob":   head(6, 1, 5, 3, 4, 0, 0, 0, 2, 4, 0, 7, 0),
		"the first place behind":  head(6, 1, 5, 3, 4, 0, 0, 0, 2, 4, 0, 8, 0),
		"the second place behind": head(6, 1, 5, 3, 4, 0, 0, 0, 2, 9, 0, 1, 0),
		"the first behind all":    head(6, 1, 5, 3, 4, 0, 0, 0, 2, 10, 0, 1, 0),
		"far behind":              head(6, 1, 5, 3, 4, 0, 0, 0, 2, 4, 0, 255, 255),
		"of two bytes":            head(6, 1, 5, 3, 4, 0, 0, 0, 2, 4, 1, 1, 0),
		"the higher byte first":   head(6, 1, 5, 3, 4, 0, 0, 0, 2, 0, 4, 0, 1),
		"one above MaxWall":       head(6, 1, 5, 3, 0x11, 0x27, 0, 0, 2, 4, 0, 1, 0),
		"65536":                   head(6, 1, 5, 3, 4, 0, 1, 0, 2, 4, 0, 1, 0),
		"2^24":                    head(6, 1, 5, 3, 4, 0, 0, 1, 2, 4, 0, 1, 0),
		"2^31":                    head(6, 1, 5, 3, 4, 0, 0, 128, 2, 4, 0, 1, 0),
		"-1":                      head(6, 1, 5, 3, 255, 255, 255, 255, 2, 4, 0, 1, 0),
	} {
		m := right()
		m.set(3, append(p, make([]byte, api.Sector-len(p))...))
		m.isTold(t, what)
		m.lay(1, one(5, 1, 4), 0, 2).isTold(t, what+", with an older one", one(5, 1, 4))
	}
	for i := range api.Sector {
		m := right()
		p := slices.Clone(m.sectors[2+3])
		p[i] ^= 64
		m.set(3, p)
		m.isTold(t, "a bit of the head")
	}
}

func TestCreditsAndRanksAtTheirEdges(t *testing.T) {
	for _, credit := range []int{0, 1, 255, 256, api.MaxWall - 1, api.MaxWall} {
		x := one(5, 3, 7)
		x.Credit = credit
		lay(1, x, 4, 1).isTold(t, "credit", x)
	}
	for ranks := 1; ranks <= api.MaxNodes+2; ranks++ {
		x := one(5, 3, make([]int, ranks)...)
		m := blank(30, 0, 30, 0)
		var at []int
		for i := range ranks + 1 {
			at = append(at, (i*7+3)%30)
		}
		m.lay(9, x, at...)
		if ranks <= api.MaxNodes {
			m.isTold(t, "ranks", x)
		} else {
			m.isTold(t, "too many ranks")
		}
	}
}

// TestNoJob: what stands for the job 0 is none's image.
func TestNoJob(t *testing.T) {
	lay(1, one(0, 3, 7), 4, 1).isTold(t, "job 0")
	lay(1, one(0, 0, 7), 4, 1).lay(0, one(1, 0, 8), 3, 2).isTold(t, "job 0", one(1, 0, 8))
	lay(0, one(math.MaxUint32, math.MaxUint32, 7), 4, 1).isTold(t, "the last job", one(math.MaxUint32, math.MaxUint32, 7))
}

func TestWrongBlobs(t *testing.T) {
	x := one(5, 3, 7, 8)
	for rank, at := range []int{4, 1} {
		data := append([]byte{byte(rank)}, x.Blobs[rank]...)
		for what, p := range map[string][]byte{
			"noughts":         nil,
			"kind 6":          sector(6, 1, 5, 3, data),
			"kind 4":          sector(4, 1, 5, 3, data),
			"kind 2":          sector(2, 1, 5, 3, data),
			"kind 255":        sector(255, 1, 5, 3, data),
			"epoch below":     sector(5, 0, 5, 3, data),
			"epoch above":     sector(5, 2, 5, 3, data),
			"another job":     sector(5, 1, 6, 3, data),
			"no job":          sector(5, 1, 0, 3, data),
			"older":           sector(5, 1, 5, 2, data),
			"newer":           sector(5, 1, 5, 4, data),
			"no bytes":        sector(5, 1, 5, 3, nil),
			"the other rank":  sector(5, 1, 5, 3, append([]byte{byte(1 - rank)}, x.Blobs[rank]...)),
			"rank 2":          sector(5, 1, 5, 3, append([]byte{2}, x.Blobs[rank]...)),
			"rank 255":        sector(5, 1, 5, 3, append([]byte{255}, x.Blobs[rank]...)),
			"another image's": blobSector(1, one(5, 4, 7, 8), rank),
		} {
			m := lay(1, x, 4, 1, 3)
			m.set(at, append(p, make([]byte, api.Sector-len(p))...))
			m.isTold(t, what)
			m.lay(1, one(5, 1, 4), 0, 2).isTold(t, what+", with an older one", one(5, 1, 4))
		}
		for i := range api.Sector {
			m := lay(1, x, 4, 1, 3)
			p := slices.Clone(m.sectors[2+at])
			p[i] ^= 32
			m.set(at, p)
			m.isTold(t, "a bit of a blob")
		}
		m := lay(1, x, 4, 1, 3)
		m.set(at, sector(5, 1, 5, 3, []byte{byte(rank)}))
		other := one(5, 3, 7, 8)
		other.Blobs[rank] = nil
		m.isTold(t, "an empty blob", other)
	}
}

// TestBeyondTheSectors: what stands on others of the slab is not told, and none of its blobs may stand there.
func TestBeyondTheSectors(t *testing.T) {
	x := one(5, 3, 7, 8)
	m := blank(12, 0, 12, 0).lay(1, x, 0, 4, 11)
	m.isTold(t, "all of them", x)
	for _, stretch := range [][2]int{{0, 11}, {1, 12}, {0, 5}, {5, 12}, {11, 12}, {0, 1}} {
		m.from, m.to = stretch[0], stretch[1]
		m.isTold(t, "some")
	}
	m = blank(12, 2, 10, 0).lay(1, x, 0, 4, 7)
	m.isTold(t, "at their edges", x)
	for _, stretch := range [][2]int{{2, 9}, {3, 10}, {1, 10}, {2, 5}} { // numbers are counted from the first place
		m.from, m.to = stretch[0], stretch[1]
		m.isTold(t, "others")
	}
	m.from, m.to = 2, 12
	m.isTold(t, "more behind", x)
	for _, blob := range []int{8, 9} {
		m = lay(1, x, 0, blob, 7)
		m.isTold(t, "a blob behind")
		m.to = 12
		m.isTold(t, "up to it", x)
	}
}

func TestTheNewestIsTold(t *testing.T) {
	older, newer := one(5, 3, 7, 8), one(5, 4, 9)
	for _, epochs := range [][2]uint32{{1, 1}, {1, 2}, {2, 1}, {0, math.MaxUint32}, {math.MaxUint32, 0}} {
		for _, at := range [][5]int{{0, 1, 2, 3, 4}, {2, 3, 4, 0, 1}, {7, 6, 3, 5, 4}, {0, 1, 7, 2, 3}} {
			m := lay(epochs[0], older, at[:3]...).lay(epochs[1], newer, at[3:]...)
			m.isTold(t, "the newer one", newer)
			m.set(at[3], make([]byte, api.Sector))
			m.isTold(t, "without its blob", older)
			m.lay(epochs[1], newer, at[3:]...).isTold(t, "the newer one", newer)
			m.set(at[4], make([]byte, api.Sector))
			m.isTold(t, "without its head", older)
		}
	}
	for _, vers := range [][2]uint32{{0, 1}, {255, 256}, {math.MaxInt32, 1 << 31}, {1, math.MaxUint32}, {0, math.MaxUint32}, {math.MaxUint32 - 1, math.MaxUint32}} {
		a, b := one(5, vers[0], 7), one(5, vers[1], 9)
		lay(1, a, 0, 1).lay(1, b, 2, 3).isTold(t, "the greater version", b)
		lay(1, b, 0, 1).lay(1, a, 2, 3).isTold(t, "the greater version", b)
	}
}

// TestOfOneVersion: the head of the least sector is told, wherever the blobs stand, and of whatever epoch they are.
func TestOfOneVersion(t *testing.T) {
	a, b := one(5, 3, 7, 8), one(5, 3, 9)
	for _, epochs := range [][2]uint32{{1, 1}, {1, 2}, {2, 1}} {
		lay(epochs[0], a, 0, 1, 2).lay(epochs[1], b, 3, 4).isTold(t, "the first", a)
		lay(epochs[0], a, 3, 4, 5).lay(epochs[1], b, 0, 1).isTold(t, "the second", b)
		lay(epochs[0], a, 6, 7, 2).lay(epochs[1], b, 0, 3).isTold(t, "the first", a)
		lay(epochs[0], a, 0, 1, 4).lay(epochs[1], b, 7, 3).isTold(t, "the second", b)
	}
	m := lay(1, a, 0, 1, 4)
	c := one(5, 3, 7, 8)
	c.Credit++
	m.set(3, headSector(1, c, 0, 1)) // two heads with the same blobs
	m.isTold(t, "the lesser sector's", c)
	m.set(5, headSector(1, one(5, 3, 7), 0))
	m.isTold(t, "three heads", c)
	m.set(2, headSector(1, b, 0))
	b.Blobs = a.Blobs[:1]
	m.isTold(t, "the least one has fewer of them", b)
}

// heap answers a model on whose sectors stand blobs and heads of all sorts, some of which belong together.
func heap(r *rand.Rand) *model {
	m := blank(9, 1, 8, 0)
	some := func() (uint32, image.Image) {
		return uint32(r.Intn(4) / 3), one(uint32(r.Intn(5)+1)/2, uint32(r.Intn(2)), 1+r.Intn(3), 2)
	}
	for i := range m.sectors {
		epoch, x := some()
		m.sectors[i] = blobSector(epoch, x, r.Intn(2))
	}
	for range 1 + r.Intn(4) {
		i := r.Intn(m.to - m.from)
		for range 20 { // so that it is there, often
			epoch, x := some()
			m.set(i, headSector(epoch, x, []int{r.Intn(8), r.Intn(8)}[:1+r.Intn(2)]...))
			if _, _, ok := m.there(i); ok {
				break
			}
		}
	}
	return m
}

// TestHeaps: of whatever stands there, Open tells what the chapter says.
func TestHeaps(t *testing.T) {
	r := rand.New(rand.NewSource(5))
	told := 0
	for range 3000 {
		m := heap(r)
		s := slabOf(t, m)
		c := m.opened(t, "heap", s, 3)
		told += len(c.List())
		if m.left() > 2 {
			puts(t, "Put upon it", s, c, m, one(4, 0, 4, 5))
			m.opened(t, "opened again", s, 4)
		}
		for _, job := range c.List() {
			drops(t, "Drop", s, c, m, job)
		}
	}
	if told < 1000 {
		t.Error("hardly any was there:", told)
	}
}
