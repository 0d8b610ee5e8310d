package scroll_test

import (
	"bytes"
	"encoding/binary"
	"hash/crc32"
	"slices"
	"testing"

	"quadrille/api"
	"quadrille/scroll"
	"quadrille/slab"
)

// made answers a new slab of n sectors.
func made(t *testing.T, n int) *slab.Slab {
	t.Helper()
	s, e := slab.New(n)
	if e != api.OK {
		t.Fatalf("New(%d): error %d", n, e)
	}
	return s
}

// answers fails the test unless the error is the one that is wanted.
func answers(t *testing.T, what string, got, want api.Errno) {
	t.Helper()
	if got != want {
		t.Fatalf("%s: error %d, want %d", what, got, want)
	}
}

// pattern answers n bytes that differ from one to the next, none of them 0.
func pattern(n, seed int) []byte {
	p := make([]byte, n)
	for i := range p {
		p[i] = byte(1 + (i*5+seed*31)%255)
	}
	return p
}

// scribble writes over all of p, its spare room too.
func scribble(p []byte) {
	p = p[:cap(p)]
	for i := range p {
		p[i] ^= 0xff
	}
}

// list answers records of these lengths.
func list(seed int, lengths ...int) [][]byte {
	var l [][]byte
	for i, n := range lengths {
		l = append(l, pattern(n, seed+i))
	}
	return l
}

// same answers whether both lists have the same records.
func same(a, b [][]byte) bool {
	return slices.EqualFunc(a, b, bytes.Equal)
}

// sector answers the bytes of a block as layer 6 has them, with its sum by the library.
func sector(kind byte, epoch, a, b uint32, data []byte) []byte {
	p := []byte{kind, byte(len(data))}
	for _, n := range []uint32{epoch, a, b} {
		p = binary.LittleEndian.AppendUint32(p, n)
	}
	p = append(p, data...)
	p = append(p, make([]byte, 124-len(p))...)
	return binary.LittleEndian.AppendUint32(p, crc32.Checksum(p, crc32.MakeTable(crc32.Castagnoli)))
}

// texts answers the bytes of a batch.
func texts(l [][]byte) []byte {
	var p []byte
	for _, r := range l {
		p = binary.AppendUvarint(p, uint64(len(r)))
		p = append(p, r...)
	}
	return p
}

// parts answers those of a batch.
func parts(l [][]byte) [][]byte {
	return slices.Collect(slices.Chunk(texts(l), 104))
}

// log is what a scroll is to be: what it tells, and the bytes of all sectors.
type log struct {
	size     int
	sectors  [][]byte
	turn     uint32
	epoch    uint32
	gen      uint32
	area     int
	used     int
	snapshot []byte
	records  [][]byte
}

// blank answers a log that isn't formatted, on n sectors of noughts.
func blank(n, size int) *log {
	m := &log{size: size}
	for range n {
		m.sectors = append(m.sectors, make([]byte, api.Sector))
	}
	return m
}

// copied answers the same log, which goes its own way.
func (m *log) copied() *log {
	other := *m
	other.sectors = slices.Clone(m.sectors)
	other.records = slices.Clone(m.records)
	return &other
}

func (m *log) batch(l [][]byte) {
	all := parts(l)
	for k, p := range all {
		kind := byte(2)
		if k == len(all)-1 {
			kind = 3
		}
		if m.used < m.size { // more is what there is no room for
			m.sectors[2+m.area*m.size+m.used] = sector(kind, m.epoch, m.gen, uint32(m.used), p)
		}
		m.used++
	}
}

func (m *log) root() {
	m.sectors[m.turn%2] = sector(1, m.epoch, m.turn, m.gen, []byte{byte(m.area)})
}

func (m *log) begin(snapshot []byte) {
	m.used, m.snapshot, m.records = 0, snapshot, nil
	m.batch([][]byte{snapshot})
	m.root()
}

func (m *log) format(snapshot []byte) *log {
	m.turn, m.epoch, m.gen, m.area = 1, 0, 1, 0
	m.begin(snapshot)
	return m
}

func (m *log) open() *log {
	m.turn++
	m.epoch++
	m.root()
	return m
}

func (m *log) add(l [][]byte) *log {
	m.batch(l)
	m.records = append(m.records, l...)
	return m
}

func (m *log) compact(snapshot []byte) *log {
	m.turn++
	m.gen++
	m.area = 1 - m.area
	m.begin(snapshot)
	return m
}

// has fails the test unless the slab has what the log has, with nothing under way.
func (m *log) has(t *testing.T, what string, s *slab.Slab) {
	t.Helper()
	if s.Way() != 0 {
		t.Fatalf("%s: %d writes under way", what, s.Way())
	}
	for i, want := range m.sectors {
		p, e := s.Read(i)
		if e != api.OK || !bytes.Equal(p, want) {
			t.Fatalf("%s: sector %d: error %d, % x; want % x", what, i, e, p, want)
		}
	}
}

// tells fails the test unless the scroll tells what the log has; asked twice, for asking changes nothing.
func (m *log) tells(t *testing.T, what string, c *scroll.Scroll) {
	t.Helper()
	for range 2 {
		if got := c.Epoch(); got != m.epoch {
			t.Fatalf("%s: Epoch %d, want %d", what, got, m.epoch)
		}
		if got := c.Snapshot(); !bytes.Equal(got, m.snapshot) {
			t.Fatalf("%s: Snapshot % x, want % x", what, got, m.snapshot)
		}
		if got := c.Records(); !same(got, m.records) {
			t.Fatalf("%s: Records % x, want % x", what, got, m.records)
		}
		if got := c.Left(); got != m.size-m.used {
			t.Fatalf("%s: Left %d, want %d", what, got, m.size-m.used)
		}
	}
}

// is fails the test unless both are as the log is.
func (m *log) is(t *testing.T, what string, s *slab.Slab, c *scroll.Scroll) {
	t.Helper()
	m.has(t, what, s)
	m.tells(t, what, c)
}

// opened answers the scroll that is opened, as the log says.
func (m *log) opened(t *testing.T, what string, s *slab.Slab) *scroll.Scroll {
	t.Helper()
	c := m.open().openedAs(t, what, s)
	m.has(t, what, s)
	return c
}

// openedAs answers the scroll that is opened and tells what the log has.
func (m *log) openedAs(t *testing.T, what string, s *slab.Slab) *scroll.Scroll {
	t.Helper()
	c, e := scroll.Open(s, m.size)
	if e != api.OK || c == nil {
		t.Fatalf("%s: Open: error %d", what, e)
	}
	m.tells(t, what, c)
	return c
}

// opensNot fails the test unless Open answers that error, and nothing beside it.
func opensNot(t *testing.T, what string, s *slab.Slab, size int, want api.Errno) {
	t.Helper()
	c, e := scroll.Open(s, size)
	if e != want || c != nil {
		t.Fatalf("%s: Open: error %d, %v; want error %d", what, e, c, want)
	}
}

// fresh answers a scroll that was formatted and opened, on a slab of its own without spare sectors.
func fresh(t *testing.T, size int, snapshot []byte) (*slab.Slab, *scroll.Scroll, *log) {
	t.Helper()
	s := made(t, 2+2*size)
	answers(t, "Format", scroll.Format(s, size, snapshot), api.OK)
	m := blank(s.Len(), size).format(snapshot)
	m.has(t, "Format", s)
	return s, m.opened(t, "fresh", s), m
}

// adds has the scroll and the log add the same.
func adds(t *testing.T, what string, s *slab.Slab, c *scroll.Scroll, m *log, l [][]byte) {
	t.Helper()
	answers(t, what, c.Add(l), api.OK)
	m.add(l).is(t, what, s, c)
}

// compacts has the scroll and the log begin anew.
func compacts(t *testing.T, what string, s *slab.Slab, c *scroll.Scroll, m *log, snapshot []byte) {
	t.Helper()
	answers(t, what, c.Compact(snapshot), api.OK)
	m.compact(snapshot).is(t, what, s, c)
}
