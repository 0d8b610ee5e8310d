package scroll_test

import (
	"bytes"
	"math/rand"
	"slices"
	"testing"

	"quadrille/api"
	"quadrille/block"
	"quadrille/scroll"
	"quadrille/slab"
)

// task is an Add or a Compact that is done to a scroll, and to a log.
type task struct {
	what string
	do   func(c *scroll.Scroll) api.Errno
	note func(m *log) *log
}

func addTask(l [][]byte) task {
	return task{
		what: "Add",
		do:   func(c *scroll.Scroll) api.Errno { return c.Add(l) },
		note: func(m *log) *log { return m.add(l) },
	}
}

func compactTask(snapshot []byte) task {
	return task{
		what: "Compact",
		do:   func(c *scroll.Scroll) api.Errno { return c.Compact(snapshot) },
		note: func(m *log) *log { return m.compact(snapshot) },
	}
}

// allFates answers all fates of n writes.
func allFates(n int) [][]byte {
	l := [][]byte{nil}
	for range n {
		var longer [][]byte
		for _, fates := range l {
			for fate := range byte(4) {
				longer = append(longer, append(slices.Clone(fates), fate))
			}
		}
		l = longer
	}
	return l
}

// cuts answers where writes are torn: at the edges of a block's fields, and between.
func cuts() []int { return []int{6, 14, 64, 126} }

// likeOne answers the log of the two that tells what the scroll does, but for the epoch; nil: neither.
func likeOne(c *scroll.Scroll, was, would *log) *log {
	for _, m := range []*log{was, would} {
		if bytes.Equal(c.Snapshot(), m.snapshot) && same(c.Records(), m.records) && c.Left() == m.size-m.used {
			return m
		}
	}
	return nil
}

// reopens fails the test unless Open, behind a crash, tells what the one log has or what the other one has, and does so again.
func reopens(t *testing.T, what string, s *slab.Slab, was, would *log) {
	t.Helper()
	c, e := scroll.Open(s, was.size)
	if e != api.OK {
		t.Fatalf("%s: Open: error %d", what, e)
	}
	m := likeOne(c, was, would)
	if m == nil {
		t.Fatalf("%s: neither: % x, % x, %d left", what, c.Snapshot(), c.Records(), c.Left())
	}
	m = m.copied()
	m.epoch++
	m.tells(t, what, c)
	c, e = scroll.Open(s, was.size)
	if e != api.OK {
		t.Fatalf("%s: Open again: error %d", what, e)
	}
	m.epoch++
	m.tells(t, what+", opened again", c)
	if c.Left() > 0 {
		answers(t, what+", a batch behind it", c.Add(list(9, 11)), api.OK)
		m.add(list(9, 11)).tells(t, what+", a batch behind it", c)
		m.epoch++
		m.openedAs(t, what+", a batch behind it, opened", s)
	}
}

// isCut fails the test unless the task, on a scroll of that log, leaves what was or what would be, wherever the power goes.
func isCut(t *testing.T, base *log, x task) {
	t.Helper()
	for step := 1; ; step++ {
		way, done := 0, false
		for k := 0; ; k++ {
			s := slabOf(t, base)
			was := base.copied()
			c := was.opened(t, x.what, s)
			would := x.note(was.copied())
			s.Arm(step)
			if x.do(c) == api.OK {
				would.is(t, x.what, s, c)
				done = true
				break
			}
			way = s.Way()
			fates := allFates(way)
			if k == len(fates)*len(cuts()) {
				break
			}
			was.tells(t, x.what+", off", c)
			f, cut := fates[k%len(fates)], cuts()[k/len(fates)]
			s.Crash(f, cut)
			isDown(t, s, c, was)
			if bytes.Equal(f, make([]byte, way)) { // nothing of it came
				would = was
			}
			reopens(t, x.what, s, was, would)
		}
		if done {
			if step < 3 {
				t.Fatalf("%s: it has %d steps", x.what, step-1)
			}
			return
		}
	}
}

// isDown fails the test unless the scroll tells what it told, and does nothing any more.
func isDown(t *testing.T, s *slab.Slab, c *scroll.Scroll, was *log) {
	t.Helper()
	steps := s.Steps()
	for _, l := range [][][]byte{nil, list(1, 1), list(1, 5000)} {
		answers(t, "Add, down", c.Add(l), api.ErrDown)
	}
	for _, p := range [][]byte{nil, {1}, make([]byte, 5000)} {
		answers(t, "Compact, down", c.Compact(p), api.ErrDown)
	}
	was.tells(t, "down", c)
	if s.Steps() != steps {
		t.Fatal("what is refused is a step")
	}
}

// bases answers logs, not opened yet, with what earlier openings may have left behind the last batch and in the other area.
func bases() map[string]*log {
	const size = 5
	l := map[string]*log{}
	fresh := blank(2+2*size, size).format([]byte("snap"))
	l["formatted"] = fresh
	compacted := fresh.copied().open().add(list(1, 300)).compact([]byte("again")).open().add(list(2, 60))
	l["compacted"] = compacted
	l["compacted twice"] = compacted.copied().open().add(list(3, 70)).compact([]byte("anew"))
	full := fresh.copied().open().add(list(1, 90)).add(list(2, 90))
	l["two are left"] = full

	// An Add of three parts in an earlier epoch, of which some came.
	for what, came := range map[string][]bool{"first": {true, false, false}, "first two": {true, true, false}, "last two": {false, true, true}, "last": {false, false, true}} {
		m := fresh.copied().open().add(list(1, 20))
		cut := m.copied().add(list(2, 300))
		for k, c := range came {
			if at := 2 + m.used + k; c {
				m.sectors[at] = cut.sectors[at]
			}
		}
		l["an Add of which the "+what+" came"] = m
	}
	// A Compact in an earlier epoch, all but for the root.
	m := fresh.copied().open().add(list(1, 20))
	cut := m.copied().compact(pattern(300, 5))
	copy(m.sectors[2+size:], cut.sectors[2+size:])
	l["a Compact but for the root"] = m
	return l
}

func TestAddIsCut(t *testing.T) {
	for what, base := range bases() {
		for _, l := range [][][]byte{list(4, 30), list(4, 30, 100), list(4, 250)} {
			x := addTask(l)
			x.what = what + ", Add"
			if scroll.Parts(l) <= base.size-base.used {
				isCut(t, base, x)
			}
		}
	}
}

func TestCompactIsCut(t *testing.T) {
	for what, base := range bases() {
		for _, n := range []int{0, 150, 250} {
			x := compactTask(pattern(n, 6))
			x.what = what + ", Compact"
			isCut(t, base, x)
		}
	}
}

// TestFormatIsCut: there is no root, or all of it.
func TestFormatIsCut(t *testing.T) {
	for _, n := range []int{0, 150, 250} {
		snapshot := pattern(n, 2)
		for step := 1; ; step++ {
			s := made(t, 12)
			s.Arm(step)
			if scroll.Format(s, 5, snapshot) == api.OK {
				blank(12, 5).format(snapshot).has(t, "Format", s)
				break
			}
			for _, fates := range allFates(s.Way()) {
				for _, cut := range cuts() {
					s := made(t, 12)
					s.Arm(step)
					answers(t, "Format", scroll.Format(s, 5, snapshot), api.ErrDown)
					s.Crash(fates, cut)
					if _, e := block.Load(s); e == api.ErrForm {
						opensNot(t, "Format, cut", s, 5, api.ErrForm)
						continue
					}
					m := blank(12, 5).format(snapshot)
					m.opened(t, "Format, cut", s)
				}
			}
		}
	}
}

// TestOpenIsCut: it is as it was, and the next epoch is one that nobody had.
func TestOpenIsCut(t *testing.T) {
	for what, base := range bases() {
		for step := 1; step <= 2; step++ {
			for fate := range byte(4) {
				for _, cut := range cuts() {
					s := slabOf(t, base)
					s.Arm(step)
					opensNot(t, what, s, base.size, api.ErrDown)
					opensNot(t, what+", off", s, base.size, api.ErrDown)
					s.Crash([]byte{fate}, cut)
					r, e := block.Load(s)
					if e != api.OK || r.Epoch < base.epoch || r.Epoch > base.epoch+1 || (fate == 1) != (r.Epoch > base.epoch) {
						t.Fatalf("%s: error %d, %v", what, e, r)
					}
					m := base.copied()
					m.epoch, m.turn = r.Epoch, r.Turn
					c := m.copied()
					c.epoch++
					c.openedAs(t, what, s)
					if r, e := block.Load(s); e != api.OK || r.Turn != m.turn+1 || r.Epoch != m.epoch+1 {
						t.Fatalf("%s: error %d, %v", what, e, r)
					}
				}
			}
		}
		s := slabOf(t, base)
		steps := s.Steps()
		s.Arm(3)
		base.copied().opened(t, what, s)
		if s.Steps() != steps+2 {
			t.Error("Open has", s.Steps()-steps, "steps")
		}
	}
}

func TestPowerThatWentBefore(t *testing.T) {
	for _, x := range []task{addTask(list(1, 1)), addTask(nil), addTask(list(1, 5000)), compactTask([]byte{1}), compactTask(make([]byte, 5000))} {
		s, c, m := fresh(t, 5, []byte("snap"))
		adds(t, "ahead", s, c, m, list(1, 7))
		s.Arm(1)
		s.Flush()
		m.tells(t, "off", c)
		answers(t, "off", x.do(c), api.ErrDown)
		m.tells(t, "off", c)
		s.Crash(nil, 0)
		isDown(t, s, c, m)
		c = m.opened(t, "opened", s)
		adds(t, "opened", s, c, m, list(2, 7))
	}
}

// TestPowerThatNobodyMissed: a crash between two calls is none to the scroll, nor is another error than ErrDown.
func TestPowerThatNobodyMissed(t *testing.T) {
	s, c, m := fresh(t, 5, []byte("snap"))
	adds(t, "ahead", s, c, m, list(1, 7))
	s.Arm(1)
	s.Flush()
	s.Crash(nil, 0)
	adds(t, "on again", s, c, m, list(2, 7))
	s.Arm(1)
	answers(t, "ErrArg", c.Add(nil), api.ErrArg)
	answers(t, "ErrFull", c.Add(list(1, 5000)), api.ErrFull)
	answers(t, "ErrFull", c.Compact(make([]byte, 5000)), api.ErrFull)
	s.Arm(0)
	adds(t, "refused before", s, c, m, list(3, 7))
	s.Arm(1)
	s.Flush()
	s.Crash(nil, 0)
	compacts(t, "on again", s, c, m, []byte("again"))
}

// someTask answers one that there is room for, or nearly.
func someTask(r *rand.Rand, m *log) task {
	if r.Intn(4) == 0 || m.used == m.size {
		return compactTask(pattern(r.Intn(350), r.Intn(200)))
	}
	var l [][]byte
	for range 1 + r.Intn(3) {
		l = append(l, pattern(r.Intn(140), r.Intn(200)))
	}
	return addTask(l)
}

// crash has the slab crash, each write with any fate.
func crash(r *rand.Rand, s *slab.Slab) {
	fates := make([]byte, s.Way())
	for k := range fates {
		fates[k] = byte(r.Intn(256))
	}
	s.Crash(fates, r.Intn(api.Sector+1))
}

// session has a scroll live through many tasks, crashes and openings that are cut.
func session(t *testing.T, r *rand.Rand) (cut, done int) {
	t.Helper()
	size := 4 + r.Intn(5)
	s := made(t, 2+2*size)
	answers(t, "Format", scroll.Format(s, size, []byte("snap")), api.OK)
	m := blank(2+2*size, size).format([]byte("snap"))
	m.epoch++
	c := m.openedAs(t, "session", s)
	for range 60 {
		x := someTask(r, m)
		would := x.note(m.copied())
		if r.Intn(2) == 0 {
			s.Arm(1 + r.Intn(5))
		}
		e := x.do(c)
		switch {
		case would.used > size:
			answers(t, x.what, e, api.ErrFull)
			m.tells(t, x.what, c)
			s.Arm(0)
			continue
		case e == api.OK:
			done++
			s.Arm(0)
			m = would
			m.tells(t, x.what, c)
			if r.Intn(5) > 0 {
				continue
			}
		default:
			answers(t, x.what, e, api.ErrDown)
			m.tells(t, x.what, c)
			cut++
		}
		crash(r, s)
		epochs := uint32(1)
		for r.Intn(3) == 0 {
			s.Arm(1 + r.Intn(2))
			opensNot(t, "cut", s, size, api.ErrDown)
			crash(r, s)
			epochs++
		}
		var is *log
		c, e = scroll.Open(s, size)
		answers(t, "Open", e, api.OK)
		if is = likeOne(c, m, would); is == nil {
			t.Fatalf("%s: neither: % x, % x, %d left", x.what, c.Snapshot(), c.Records(), c.Left())
		}
		if c.Epoch() <= m.epoch || c.Epoch() > m.epoch+epochs {
			t.Fatalf("Epoch %d behind %d", c.Epoch(), m.epoch)
		}
		m = is.copied()
		m.epoch = c.Epoch()
	}
	return cut, done
}

func TestSessions(t *testing.T) {
	r := rand.New(rand.NewSource(1))
	cut, done := 0, 0
	for range 600 {
		c, d := session(t, r)
		cut += c
		done += d
	}
	if cut < 5000 || done < 5000 {
		t.Error("hardly anything happened:", cut, done)
	}
}
