package image_test

import (
	"bytes"
	"encoding/binary"
	"hash/crc32"
	"maps"
	"slices"
	"testing"

	"quadrille/api"
	"quadrille/image"
	"quadrille/slab"
)

// made answers a new slab of n sectors.
func made(t *testing.T, n int) *slab.Slab {
	t.Helper()
	s, e := slab.New(n)
	if e != api.OK {
		t.Fatalf("New(%d): error %d", n, e)
	}
	return s
}

// answers fails the test unless the error is the one that is wanted.
func answers(t *testing.T, what string, got, want api.Errno) {
	t.Helper()
	if got != want {
		t.Fatalf("%s: error %d, want %d", what, got, want)
	}
}

// pattern answers n bytes that differ from one to the next, none of them 0.
func pattern(n, seed int) []byte {
	p := make([]byte, n)
	for i := range p {
		p[i] = byte(1 + (i*5+seed*31)%255)
	}
	return p
}

// scribble writes over all of p, its spare room too.
func scribble(p []byte) {
	p = p[:cap(p)]
	for i := range p {
		p[i] ^= 0xff
	}
}

// blobs answers blobs of these lengths.
func blobs(seed int, lengths ...int) [][]byte {
	var l [][]byte
	for i, n := range lengths {
		l = append(l, pattern(n, seed+i))
	}
	return l
}

// one answers an image with blobs of these lengths, which no other version has.
func one(job, ver uint32, lengths ...int) image.Image {
	seed := int(job)*7 + int(ver)*13
	return image.Image{Job: job, Ver: ver, Credit: seed % (api.MaxWall + 1), Blobs: blobs(seed, lengths...)}
}

// alike answers whether both are the same image.
func alike(a, b image.Image) bool {
	return a.Job == b.Job && a.Ver == b.Ver && a.Credit == b.Credit && slices.EqualFunc(a.Blobs, b.Blobs, bytes.Equal)
}

// sector answers the bytes of a block as layer 6 has them, with its sum by the library.
func sector(kind byte, epoch, a, b uint32, data []byte) []byte {
	p := []byte{kind, byte(len(data))}
	for _, n := range []uint32{epoch, a, b} {
		p = binary.LittleEndian.AppendUint32(p, n)
	}
	p = append(p, data...)
	p = append(p, make([]byte, 124-len(p))...)
	return binary.LittleEndian.AppendUint32(p, crc32.Checksum(p, crc32.MakeTable(crc32.Castagnoli)))
}

// blobSector answers the bytes of a blob's sector.
func blobSector(epoch uint32, x image.Image, rank int) []byte {
	return sector(5, epoch, x.Job, x.Ver, append([]byte{byte(rank)}, x.Blobs[rank]...))
}

// headSector answers the bytes of a head's sector; its blobs stand at these numbers.
func headSector(epoch uint32, x image.Image, at ...int) []byte {
	p := binary.LittleEndian.AppendUint32(nil, uint32(x.Credit))
	p = append(p, byte(len(at)))
	for _, i := range at {
		p = binary.LittleEndian.AppendUint16(p, uint16(i))
	}
	return sector(6, epoch, x.Job, x.Ver, p)
}

// stand is an image and its numbers, counted from the first place: of the blobs, and of the head.
type stand struct {
	x  image.Image
	at []int
}

// model is what a store is to be: what it tells, and the bytes of all sectors.
type model struct {
	from, to int
	epoch    uint32
	sectors  [][]byte
	taken    map[int]bool
	jobs     map[uint32]stand
}

// blank answers a model without images, on n sectors of noughts.
func blank(n, from, to int, epoch uint32) *model {
	m := &model{from: from, to: to, epoch: epoch, taken: map[int]bool{}, jobs: map[uint32]stand{}}
	for range n {
		m.sectors = append(m.sectors, make([]byte, api.Sector))
	}
	return m
}

// copied answers the same model, which goes its own way.
func (m *model) copied() *model {
	other := *m
	other.sectors = slices.Clone(m.sectors)
	other.taken = maps.Clone(m.taken)
	other.jobs = maps.Clone(m.jobs)
	return &other
}

func (m *model) left() int {
	return m.to - m.from - len(m.taken)
}

// least answers the n least numbers that are free.
func (m *model) least(n int) []int {
	var l []int
	for i := 0; len(l) < n; i++ {
		if !m.taken[i] {
			l = append(l, i)
		}
	}
	return l
}

// begin takes the sectors of x, and answers them.
func (m *model) begin(x image.Image) []int {
	at := m.least(len(x.Blobs) + 1)
	for _, i := range at {
		m.taken[i] = true
	}
	return at
}

// write does the first n of a Put's writes.
func (m *model) write(x image.Image, at []int, n int) {
	for k, i := range at[:n] {
		if k == len(x.Blobs) {
			m.sectors[m.from+i] = headSector(m.epoch, x, at[:k]...)
		} else {
			m.sectors[m.from+i] = blobSector(m.epoch, x, k)
		}
	}
}

func (m *model) release(job uint32) {
	for _, i := range m.jobs[job].at {
		delete(m.taken, i)
	}
	delete(m.jobs, job)
}

func (m *model) put(x image.Image) *model {
	at := m.begin(x)
	m.write(x, at, len(at))
	m.release(x.Job)
	m.jobs[x.Job] = stand{x, at}
	return m
}

// head answers where a job's head stands on the slab.
func (m *model) head(job uint32) int {
	at := m.jobs[job].at
	return m.from + at[len(at)-1]
}

func (m *model) drop(job uint32) *model {
	m.sectors[m.head(job)] = make([]byte, api.Sector)
	m.release(job)
	return m
}

// open has the model be as its sectors say: the head of the greatest version of each job, the least sector's of several.
func (m *model) open(epoch uint32) *model {
	m.epoch, m.taken, m.jobs = epoch, map[int]bool{}, map[uint32]stand{}
	for i := m.to - m.from - 1; i >= 0; i-- {
		if x, at, ok := m.there(i); ok && x.Ver >= m.jobs[x.Job].x.Ver {
			m.jobs[x.Job] = stand{x, append(at, i)}
		}
	}
	for _, x := range m.jobs {
		for _, i := range x.at {
			m.taken[i] = true
		}
	}
	return m
}

// there answers the image whose head has that number: it is there if the sectors are just those of such an image.
func (m *model) there(i int) (x image.Image, at []int, ok bool) {
	p := m.sectors[m.from+i]
	n := int(p[18])
	if n < 1 || n > api.MaxNodes {
		return x, nil, false
	}
	epoch := binary.LittleEndian.Uint32(p[2:])
	x = image.Image{Job: binary.LittleEndian.Uint32(p[6:]), Ver: binary.LittleEndian.Uint32(p[10:])}
	credit := binary.LittleEndian.Uint32(p[14:])
	if x.Job == 0 || credit > api.MaxWall {
		return x, nil, false
	}
	x.Credit = int(credit)
	for k := range n {
		at = append(at, int(binary.LittleEndian.Uint16(p[19+2*k:])))
	}
	if !bytes.Equal(p, headSector(epoch, x, at...)) {
		return x, nil, false
	}
	for k, j := range at {
		if j >= m.to-m.from {
			return x, nil, false
		}
		q := m.sectors[m.from+j]
		if q[1] < 1 || q[1] > 104 {
			return x, nil, false
		}
		x.Blobs = append(x.Blobs, q[15:14+int(q[1])])
		if !bytes.Equal(q, blobSector(epoch, x, k)) {
			return x, nil, false
		}
	}
	return x, at, true
}

// list answers the jobs that have an image, rising.
func (m *model) list() []uint32 {
	return slices.Sorted(maps.Keys(m.jobs))
}

// has fails the test unless the slab has what the model has, with nothing under way.
func (m *model) has(t *testing.T, what string, s *slab.Slab) {
	t.Helper()
	if s.Way() != 0 {
		t.Fatalf("%s: %d writes under way", what, s.Way())
	}
	for i, want := range m.sectors {
		p, e := s.Read(i)
		if e != api.OK || !bytes.Equal(p, want) {
			t.Fatalf("%s: sector %d: error %d, % x; want % x", what, i, e, p, want)
		}
	}
}

// hasNot fails the test unless the job has no image.
func hasNot(t *testing.T, what string, c *image.Store, job uint32) {
	t.Helper()
	if x, e := c.Get(job); e != api.ErrNone || !alike(x, image.Image{}) {
		t.Fatalf("%s: Get(%d): error %d, %v", what, job, e, x)
	}
}

// tells fails the test unless the store tells what the model has; asked twice, for asking changes nothing.
func (m *model) tells(t *testing.T, what string, c *image.Store) {
	t.Helper()
	for range 2 {
		if got := c.List(); !slices.Equal(got, m.list()) {
			t.Fatalf("%s: List %v, want %v", what, got, m.list())
		}
		if got := c.Left(); got != m.left() {
			t.Fatalf("%s: Left %d, want %d", what, got, m.left())
		}
		for job, want := range m.jobs {
			if x, e := c.Get(job); e != api.OK || !alike(x, want.x) {
				t.Fatalf("%s: Get(%d): error %d, %v; want %v", what, job, e, x, want.x)
			}
		}
		for _, job := range []uint32{0, 1, 2, 99, 1<<32 - 1} {
			if _, ok := m.jobs[job]; !ok {
				hasNot(t, what, c, job)
			}
		}
	}
}

// is fails the test unless both are as the model is.
func (m *model) is(t *testing.T, what string, s *slab.Slab, c *image.Store) {
	t.Helper()
	m.has(t, what, s)
	m.tells(t, what, c)
}

// opened answers the store that is opened on a slab with the model's sectors, and tells what they say.
func (m *model) opened(t *testing.T, what string, s *slab.Slab, epoch uint32) *image.Store {
	t.Helper()
	steps := s.Steps()
	c, e := image.Open(s, m.from, m.to, epoch)
	if e != api.OK || c == nil {
		t.Fatalf("%s: Open: error %d", what, e)
	}
	if s.Steps() != steps {
		t.Fatalf("%s: Open wrote", what)
	}
	m.open(epoch).is(t, what, s, c)
	return c
}

// opensNot fails the test unless Open answers that error, and nothing beside it.
func opensNot(t *testing.T, what string, s *slab.Slab, from, to int, want api.Errno) {
	t.Helper()
	c, e := image.Open(s, from, to, 1)
	if e != want || c != nil {
		t.Fatalf("%s: Open(%d, %d): error %d, %v; want error %d", what, from, to, e, c, want)
	}
}

// slabOf answers a slab with the model's sectors.
func slabOf(t *testing.T, m *model) *slab.Slab {
	t.Helper()
	s := made(t, len(m.sectors))
	for i, p := range m.sectors {
		answers(t, "Write", s.Write(i, p), api.OK)
	}
	answers(t, "Flush", s.Flush(), api.OK)
	return s
}

// fresh answers a store on sectors of noughts, with others around it.
func fresh(t *testing.T, places int) (*slab.Slab, *image.Store, *model) {
	t.Helper()
	m := blank(places+5, 3, places+3, 4)
	for _, i := range []int{0, 1, 2, places + 3, places + 4} {
		m.sectors[i] = pattern(api.Sector, i)
	}
	s := slabOf(t, m)
	return s, m.opened(t, "fresh", s, 4), m
}

// puts has the store and the model put the same.
func puts(t *testing.T, what string, s *slab.Slab, c *image.Store, m *model, x image.Image) {
	t.Helper()
	steps := s.Steps()
	answers(t, what, c.Put(x), api.OK)
	if got := s.Steps() - steps; got != len(x.Blobs)+3 { // a write for each blob and for the head, and two flushes
		t.Fatalf("%s: Put has %d steps", what, got)
	}
	m.put(x).is(t, what, s, c)
}

// putsNot fails the test unless Put answers that error, and nothing has changed.
func putsNot(t *testing.T, what string, s *slab.Slab, c *image.Store, m *model, x image.Image, want api.Errno) {
	t.Helper()
	steps := s.Steps()
	answers(t, what, c.Put(x), want)
	if s.Steps() != steps {
		t.Fatalf("%s: a Put that is refused has steps", what)
	}
	m.is(t, what, s, c)
}

// drops has the store and the model drop the same.
func drops(t *testing.T, what string, s *slab.Slab, c *image.Store, m *model, job uint32) {
	t.Helper()
	steps := s.Steps()
	answers(t, what, c.Drop(job), api.OK)
	if s.Steps() != steps+2 {
		t.Fatalf("%s: Drop has %d steps", what, s.Steps()-steps)
	}
	m.drop(job).is(t, what, s, c)
}
