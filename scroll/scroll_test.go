package scroll_test

import (
	"bytes"
	"math"
	"testing"

	"quadrille/api"
	"quadrille/block"
	"quadrille/scroll"
	"quadrille/slab"
)

// lengths answers those of records at the edges of parts and of texts, and what lies between.
func lengths() []int {
	return []int{0, 1, 2, 50, 102, 103, 104, 105, 126, 127, 128, 129, 200, 205, 206, 207, 300, 309, 310, 311, 2048}
}

func TestExample(t *testing.T) {
	s, c, m := fresh(t, 9, nil)
	a, b, d := []byte("a"), []byte("b"), []byte("c")
	adds(t, "a, b", s, c, m, [][]byte{a, b})
	adds(t, "c", s, c, m, [][]byte{d})
	if c.Epoch() != 1 || !same(c.Records(), [][]byte{a, b, d}) {
		t.Error("Epoch", c.Epoch(), "Records", c.Records())
	}
	s.Crash(nil, 0)
	c = m.opened(t, "behind a crash", s)
	if c.Epoch() != 2 || !same(c.Records(), [][]byte{a, b, d}) {
		t.Error("behind a crash: Epoch", c.Epoch(), "Records", c.Records())
	}
}

func TestParts(t *testing.T) {
	for _, x := range []struct {
		l    [][]byte
		want int
	}{
		{nil, 1},
		{[][]byte{}, 1},
		{[][]byte{nil}, 1},
		{[][]byte{{}}, 1},
		{make([][]byte, 104), 1},
		{make([][]byte, 105), 2},
		{make([][]byte, 208), 2},
		{make([][]byte, 209), 3},
		{list(1, 103), 1},
		{list(1, 104), 2},
		{list(1, 51, 51), 1},
		{list(1, 51, 52), 2},
		{list(1, 102, 0), 1},
		{list(1, 103, 0), 2},
		{list(1, 206), 2},
		{list(1, 207), 3},
		{list(1, 127), 2},
		{list(1, 78, 127), 2},
		{list(1, 78, 128), 3},
		{list(1, 310), 3},
		{list(1, 311), 4},
		{list(1, 16383), 158},
		{list(1, 16384), 158},
	} {
		if got := scroll.Parts(x.l); got != x.want {
			t.Errorf("Parts of %d records of %d bytes: %d, want %d", len(x.l), len(texts(x.l)), got, x.want)
		}
	}
	for n := range 700 {
		for _, l := range [][][]byte{list(n, n), list(n, n, 0), list(n, n, n)} {
			if got := scroll.Parts(l); got != len(parts(l)) {
				t.Errorf("Parts of %d records of %d bytes: %d, want %d", len(l), n, got, len(parts(l)))
			}
		}
	}
}

func TestFormatWritesTheAreaAndTheRoot(t *testing.T) {
	for _, n := range lengths() {
		snapshot := pattern(n, 3)
		need := len(parts([][]byte{snapshot}))
		for _, size := range []int{need, need + 1, need + 7} {
			for _, spare := range []int{0, 1, 5} {
				s := made(t, 2+2*size+spare)
				answers(t, "Format", scroll.Format(s, size, snapshot), api.OK)
				m := blank(s.Len(), size).format(snapshot)
				m.has(t, "Format", s)
				s.Crash(nil, 0)
				m.has(t, "Format, behind a crash", s)
				m.opened(t, "Format", s)
				s.Crash(nil, 0)
				m.has(t, "Open, behind a crash", s)
			}
		}
		if need > 1 {
			s := made(t, 2*need)
			answers(t, "Format without room", scroll.Format(s, need-1, snapshot), api.ErrFull)
			blank(s.Len(), 1).has(t, "Format without room", s)
			if s.Steps() != 0 {
				t.Error("what is refused is a step")
			}
		}
	}
}

// sizes answers those for which a slab of n sectors is too small, and those that are none.
func sizes(n int) []int {
	return []int{
		0, -1, -2, math.MinInt32, math.MinInt, math.MinInt + 1, math.MinInt / 2, math.MinInt/2 - 1,
		(n-2)/2 + 1, n - 1, n, n + 1, 1 << 30, 1 << 31, math.MaxUint32, 1 << 61, 1 << 62, 1<<62 - 1, 1<<62 + 1, math.MaxInt - 1, math.MaxInt,
	}
}

func TestSizes(t *testing.T) {
	for _, n := range []int{1, 2, 3, 4, 5, 6, 7, 12, 13, api.MaxSectors} {
		s := made(t, n)
		for _, size := range sizes(n) {
			if size >= 1 && size <= (n-2)/2 {
				continue
			}
			answers(t, "Format", scroll.Format(s, size, nil), api.ErrArg)
			answers(t, "Format of what has no room either", scroll.Format(s, size, make([]byte, 3000)), api.ErrArg)
			opensNot(t, "a wrong size", s, size, api.ErrArg)
		}
		if s.Steps() != 0 {
			t.Error("what is refused is written")
		}
		most := (n - 2) / 2
		if most < 1 {
			continue
		}
		answers(t, "Format of the greatest size", scroll.Format(s, most, nil), api.OK)
		blank(n, most).format(nil).opened(t, "the greatest size", s)
		for _, size := range sizes(n) {
			if size < 1 || size > most {
				opensNot(t, "a wrong size of what is formatted", s, size, api.ErrArg)
			}
		}
	}
}

func TestFormatRefused(t *testing.T) {
	for _, size := range append(sizes(20), 1, 9) {
		answers(t, "nil", scroll.Format(nil, size, nil), api.ErrNone)
		answers(t, "nil", scroll.Format(nil, size, make([]byte, 3000)), api.ErrNone)
		opensNot(t, "nil", nil, size, api.ErrNone)
	}
	s := made(t, 20)
	s.Arm(1)
	s.Flush()
	answers(t, "off, a wrong size", scroll.Format(s, 10, make([]byte, 3000)), api.ErrArg)
	answers(t, "off, no room", scroll.Format(s, 9, make([]byte, 3000)), api.ErrFull)
	answers(t, "off", scroll.Format(s, 9, nil), api.ErrDown)
	opensNot(t, "off, a wrong size", s, 10, api.ErrArg)
	opensNot(t, "off", s, 9, api.ErrDown)
	if s.Steps() != 1 {
		t.Error("what is refused is a step")
	}
}

// TestFormatWritesNothingElse: what stood on the other sectors still does.
func TestFormatWritesNothingElse(t *testing.T) {
	m := blank(20, 8)
	for i := range m.sectors {
		m.sectors[i] = pattern(api.Sector, i)
	}
	s := slabOf(t, m)
	answers(t, "Format", scroll.Format(s, 8, pattern(300, 1)), api.OK)
	m.format(pattern(300, 1)).opened(t, "among other things", s)
}

func TestAddWritesABatch(t *testing.T) {
	s, c, m := fresh(t, 200, pattern(3, 3))
	for i, n := range lengths() {
		adds(t, "one record", s, c, m, list(i, n))
		adds(t, "two", s, c, m, list(i, n, 7))
	}
	adds(t, "many", s, c, m, list(9, lengths()...))
	s.Crash(nil, 0)
	m.has(t, "behind a crash", s)
	c = m.opened(t, "behind a crash", s)
	adds(t, "in the next epoch", s, c, m, list(5, 103, 0))
	m.opened(t, "opened again", s)
}

func TestAddUpToTheEnd(t *testing.T) {
	s, c, m := fresh(t, 5, nil)
	for _, n := range []int{417, 3000} {
		answers(t, "more than is left", c.Add(list(2, n)), api.ErrFull)
		m.is(t, "more than is left", s, c)
	}
	adds(t, "all that is left", s, c, m, list(1, 414))
	if c.Left() != 0 {
		t.Error("Left", c.Left())
	}
	answers(t, "nothing is left", c.Add([][]byte{nil}), api.ErrFull)
	answers(t, "nothing of nothing", c.Add(nil), api.ErrArg)
	m.is(t, "nothing is left", s, c)
	c = m.opened(t, "full", s)
	answers(t, "nothing is left", c.Add([][]byte{nil}), api.ErrFull)
	compacts(t, "full", s, c, m, pattern(103, 1))
	for k := range 4 {
		adds(t, "part by part", s, c, m, list(k, 103))
	}
	answers(t, "nothing is left", c.Add([][]byte{nil}), api.ErrFull)
	m.opened(t, "full", s)
}

func TestAddOfNothing(t *testing.T) {
	s, c, m := fresh(t, 5, nil)
	steps := s.Steps()
	answers(t, "nil", c.Add(nil), api.ErrArg)
	answers(t, "empty", c.Add([][]byte{}), api.ErrArg)
	m.is(t, "nothing", s, c)
	if s.Steps() != steps {
		t.Error("what is refused is a step")
	}
	adds(t, "a record of nothing", s, c, m, [][]byte{nil})
	adds(t, "records of nothing", s, c, m, [][]byte{{}, nil, {}})
	if l := c.Records(); len(l) != 4 {
		t.Error("Records", l)
	}
	m.opened(t, "records of nothing", s)
}

func TestCompactTakesTheOtherArea(t *testing.T) {
	s, c, m := fresh(t, 6, pattern(5, 1))
	for k := range 9 {
		adds(t, "ahead", s, c, m, list(k, 104+k, 3))
		compacts(t, "Compact", s, c, m, pattern(k*70, k))
		s.Crash(nil, 0)
		m.is(t, "behind a crash", s, c)
		if k%3 == 0 {
			c = m.opened(t, "opened", s)
		}
		compacts(t, "at once", s, c, m, pattern(k, k))
	}
	for _, n := range []int{103, 104, 621, 622} {
		compacts(t, "at the edges", s, c, m, pattern(n, 2))
	}
	if c.Left() != 0 {
		t.Error("Left", c.Left())
	}
	steps := s.Steps()
	for _, n := range []int{623, 624, 3000} {
		answers(t, "no room", c.Compact(make([]byte, n)), api.ErrFull)
	}
	m.is(t, "no room", s, c)
	if s.Steps() != steps {
		t.Error("what is refused is a step")
	}
	compacts(t, "none", s, c, m, nil)
	m.opened(t, "none", s)
}

// laid answers a slab with that root, its area begun with a snapshot of that epoch.
func laid(r block.Root, size int, epoch uint32) *log {
	m := blank(2+2*size, size)
	m.turn, m.epoch, m.gen, m.area = r.Turn, epoch, r.Gen, int(r.Area)
	m.begin([]byte("snap"))
	m.epoch = r.Epoch
	m.root()
	return m
}

// slabOf answers a slab that has what the log has, all done.
func slabOf(t *testing.T, m *log) *slab.Slab {
	t.Helper()
	s := made(t, len(m.sectors))
	for i, p := range m.sectors {
		s.Write(i, p)
	}
	s.Flush()
	return s
}

func TestLastNumbers(t *testing.T) {
	const most = math.MaxUint32
	for _, r := range []block.Root{
		{Turn: most, Epoch: 7, Gen: 2},
		{Turn: 6, Epoch: most, Gen: 2, Area: 1},
		{Turn: most, Epoch: most, Gen: most, Area: 1},
	} {
		s := slabOf(t, laid(r, 4, 0))
		steps := s.Steps()
		s.Arm(1)
		opensNot(t, "no number is left", s, 4, api.ErrFull)
		opensNot(t, "a wrong size", s, 5, api.ErrArg)
		if s.Steps() != steps {
			t.Error("what is refused is a step")
		}
		s.Arm(0)
		s.Write(2+4*int(r.Area), nil)
		opensNot(t, "no snapshot", s, 4, api.ErrForm)
		s.Arm(1)
		s.Flush()
		opensNot(t, "off", s, 4, api.ErrDown)
	}
	for _, r := range []block.Root{
		{Turn: most - 1, Epoch: 7, Gen: 2},
		{Turn: 6, Epoch: 7, Gen: most, Area: 1},
		{Turn: most - 1, Epoch: most - 1, Gen: most, Area: 1},
	} {
		m := laid(r, 4, 0)
		s := slabOf(t, m)
		c := m.opened(t, "the last turn or generation", s)
		adds(t, "the last turn or generation", s, c, m, list(1, 5))
		answers(t, "no number is left", c.Compact(nil), api.ErrFull)
		answers(t, "no number is left, nor room", c.Compact(make([]byte, 3000)), api.ErrFull)
		m.is(t, "no number is left", s, c)
		adds(t, "as it was", s, c, m, list(2, 5))
		if m.turn == most || m.epoch == most {
			opensNot(t, "no number is left", s, 4, api.ErrFull)
		}
	}
	m := laid(block.Root{Turn: most - 2, Epoch: most - 1, Gen: most - 1}, 4, most-1)
	s := slabOf(t, m)
	c := m.opened(t, "one turn and one generation ahead of the last", s)
	adds(t, "one ahead of the last", s, c, m, list(1, 5))
	compacts(t, "the last one", s, c, m, []byte("end"))
	adds(t, "in the last generation", s, c, m, list(1, 5))
	answers(t, "no number is left", c.Compact(nil), api.ErrFull)
	m.is(t, "no number is left", s, c)
}

func TestNilScroll(t *testing.T) {
	var c *scroll.Scroll
	for range 2 {
		if c.Epoch() != 0 || len(c.Snapshot()) != 0 || len(c.Records()) != 0 || c.Left() != 0 {
			t.Error("a nil scroll tells something")
		}
		for _, l := range [][][]byte{nil, {}, {nil}, list(1, 5000)} {
			answers(t, "Add of a nil scroll", c.Add(l), api.ErrNone)
		}
		for _, p := range [][]byte{nil, {1}, make([]byte, 5000)} {
			answers(t, "Compact of a nil scroll", c.Compact(p), api.ErrNone)
		}
	}
}

func TestNothingHandedInIsKeptOrChanged(t *testing.T) {
	room := pattern(60, 1)
	snapshot := bytes.Clone(room[:20])
	s := made(t, 12)
	answers(t, "Format", scroll.Format(s, 5, room[:20]), api.OK)
	if !bytes.Equal(room, pattern(60, 1)) {
		t.Error("Format changes what it is given")
	}
	scribble(room)
	m := blank(12, 5).format(snapshot)
	c := m.opened(t, "Format", s)

	one, other := pattern(60, 2), pattern(60, 3)
	spare := [][]byte{one[:10], other[:0], one[5:40], other}
	answers(t, "Add", c.Add(spare[:3]), api.OK)
	if !bytes.Equal(one, pattern(60, 2)) || !bytes.Equal(other, pattern(60, 3)) || !same(spare, [][]byte{one[:10], nil, one[5:40], other}) {
		t.Error("Add changes what it is given")
	}
	m.add([][]byte{pattern(10, 2), nil, pattern(60, 2)[5:40]})
	scribble(one)
	scribble(other)
	clear(spare)
	m.is(t, "Add", s, c)

	room = pattern(60, 4)
	answers(t, "Compact", c.Compact(room[:30]), api.OK)
	if !bytes.Equal(room, pattern(60, 4)) {
		t.Error("Compact changes what it is given")
	}
	scribble(room)
	m.compact(pattern(30, 4)).is(t, "Compact", s, c)

	l := list(1, 3, 200)
	scroll.Parts(l[:1])
	if !same(l, list(1, 3, 200)) {
		t.Error("Parts changes what it is given")
	}
}

func TestAnswersAreNewMemory(t *testing.T) {
	s, c, m := fresh(t, 9, pattern(9, 1))
	adds(t, "Add", s, c, m, list(1, 5, 0, 70))
	adds(t, "Add", s, c, m, list(4, 130))
	opened := m.opened(t, "opened", s)
	for _, c := range []*scroll.Scroll{c, opened} {
		m.epoch = c.Epoch()
		scribble(c.Snapshot())
		m.tells(t, "Snapshot", c)
		earlier := c.Records()
		l := c.Records()
		for i := range l {
			scribble(l[i])
			for k := range l {
				if k > i && !bytes.Equal(l[k], m.records[k]) {
					t.Error("records of one answer share memory")
				}
			}
		}
		spare := l[:cap(l)]
		clear(spare)
		if !same(earlier, m.records) {
			t.Error("answers share memory")
		}
		m.tells(t, "Records", c)
	}
}

// TestTwoScrolls: on slabs of their own they have nothing in common.
func TestTwoScrolls(t *testing.T) {
	s, c, m := fresh(t, 5, []byte("one"))
	s2, c2, m2 := fresh(t, 5, []byte("two"))
	adds(t, "the one", s, c, m, list(1, 5))
	m2.is(t, "the other", s2, c2)
	compacts(t, "the other", s2, c2, m2, []byte("three"))
	adds(t, "the other", s2, c2, m2, list(2, 150))
	m.is(t, "the one", s, c)
	s2.Arm(1)
	answers(t, "the other", c2.Add(list(1, 1)), api.ErrDown)
	adds(t, "the one", s, c, m, list(3, 5))
}
