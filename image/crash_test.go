package image_test

import (
	"bytes"
	"math/rand"
	"slices"
	"testing"

	"quadrille/api"
	"quadrille/image"
	"quadrille/slab"
)

// allFates answers all fates of n writes.
func allFates(n int) [][]byte {
	l := [][]byte{nil}
	for range n {
		var longer [][]byte
		for _, fates := range l {
			for fate := range byte(4) {
				longer = append(longer, append(slices.Clone(fates), fate))
			}
		}
		l = longer
	}
	return l
}

// cuts answers where writes are torn: at the edges of a block's fields, and between.
func cuts() []int { return []int{6, 14, 64, 126} }

// isDown fails the test unless the store tells what the model does, and does nothing any more.
func isDown(t *testing.T, s *slab.Slab, c *image.Store, m *model) {
	t.Helper()
	steps := s.Steps()
	for _, x := range []image.Image{one(9, 1, 1), one(1, 0, 1), one(9, 1, 500), one(9, 1, make([]int, api.MaxNodes)...), {}} {
		answers(t, "Put, down", c.Put(x), api.ErrDown)
	}
	for _, job := range append(m.list(), 0, 99) {
		answers(t, "Drop, down", c.Drop(job), api.ErrDown)
	}
	m.tells(t, "down", c)
	if s.Steps() != steps {
		t.Fatal("what is refused is a step")
	}
}

// bases answers models, to be opened, with what earlier openings may have left behind.
func bases() map[string]*model {
	l := map[string]*model{}
	empty := blank(16, 2, 15, 1)
	l["empty"] = empty
	some := empty.copied().put(one(1, 1, 5, 6)).put(one(2, 4, 7))
	l["two images"] = some
	l["a hole"] = some.copied().put(one(3, 1, 8, 9)).drop(2)
	l["an older version ahead"] = some.copied().put(one(1, 2, 9))
	l["an older version behind"] = some.copied().put(one(1, 2, 9)).drop(2).put(one(1, 3, 4, 5))

	// A Put of two blobs in an earlier epoch, of which some came.
	for what, came := range map[string][]bool{"first": {true, false, false}, "blobs": {true, true, false}, "head": {false, false, true}, "last two": {false, true, true}} {
		m := some.copied()
		x := one(1, 2, 11, 12)
		at := m.copied().begin(x)
		cut := m.copied()
		cut.write(x, at, len(at))
		for k, c := range came {
			if i := m.from + at[k]; c {
				m.sectors[i] = cut.sectors[i]
			}
		}
		l["a Put of which the "+what+" came"] = m
	}
	for _, m := range l {
		m.sectors[0], m.sectors[15] = pattern(api.Sector, 1), pattern(api.Sector, 2)
	}
	return l
}

// reopens fails the test unless Open, behind a crash, tells what one of the two has, and does so again; what stands beside is not looked at.
func reopens(t *testing.T, what string, s *slab.Slab, was, would *model) {
	t.Helper()
	for epoch := uint32(101); epoch <= 102; epoch++ {
		c, e := image.Open(s, was.from, was.to, epoch)
		if e != api.OK {
			t.Fatalf("%s: Open: error %d", what, e)
		}
		m := likeOne(c, was, would)
		if m == nil {
			t.Fatalf("%s: neither: %v", what, c.List())
		}
		m.tells(t, what, c)
		was, would = m, m
	}
}

// likeOne answers the model of the two that tells what the store does; nil: neither.
func likeOne(c *image.Store, was, would *model) *model {
	for _, m := range []*model{was, would} {
		isIt := slices.Equal(c.List(), m.list())
		for job, want := range m.jobs {
			x, _ := c.Get(job)
			isIt = isIt && alike(x, want.x)
		}
		if isIt {
			return m
		}
	}
	return nil
}

// TestPutIsCut: wherever the power goes, there is what was, or what would be; all that was written so far is where it belongs.
func TestPutIsCut(t *testing.T) {
	for what, base := range bases() {
		for _, x := range []image.Image{one(1, 7, 30, 40), one(9, 1, 50), one(2, 5, 0, image.MaxBlob, 3)} {
			for step := 1; step <= len(x.Blobs)+3; step++ {
				putIsCut(t, what, base, x, step)
			}
			s := slabOf(t, base)
			m := base.copied()
			c := m.opened(t, what, s, 100)
			s.Arm(len(x.Blobs) + 4)
			puts(t, what, s, c, m, x)
			m.opened(t, what, s, 101)
		}
	}
}

// putIsCut has the power go at that step of a Put.
func putIsCut(t *testing.T, what string, base *model, x image.Image, step int) {
	t.Helper()
	blobs := len(x.Blobs)
	for k := 0; ; k++ {
		s := slabOf(t, base)
		was := base.copied()
		c := was.opened(t, what, s, 100)
		would := was.copied().put(x)
		s.Arm(step)
		answers(t, what, c.Put(x), api.ErrDown)
		written, way := min(step, blobs), min(step, blobs)
		if step >= blobs+2 {
			written, way = blobs+1, 1
		}
		if s.Way() != way {
			t.Fatalf("%s: %d writes under way at step %d", what, s.Way(), step)
		}
		off := was.copied()
		at := off.begin(x) // these aren't free any more
		off.tells(t, what+", off", c)
		fates := allFates(way)
		if k == len(fates)*len(cuts()) {
			return
		}
		f, cut := fates[k%len(fates)], cuts()[k/len(fates)]
		s.Crash(f, cut)
		isDown(t, s, c, off)
		switch {
		case bytes.Equal(f, slices.Repeat([]byte{1}, way)): // all of it came
			off.write(x, at, written)
			off.has(t, what, s)
			if written == blobs+1 {
				was = would
			}
		case step <= blobs+1 || f[0] == 0:
			would = was
		}
		reopens(t, what, s, was, would)
	}
}

// TestDropIsCut: it is told as it was; and behind a crash an image of that job that was put, or none.
func TestDropIsCut(t *testing.T) {
	for what, base := range bases() {
		for step := 1; step <= 2; step++ {
			for _, job := range base.copied().open(100).list() {
				for k := range 4 * len(cuts()) {
					s := slabOf(t, base)
					m := base.copied()
					c := m.opened(t, what, s, 100)
					s.Arm(step)
					answers(t, what, c.Drop(job), api.ErrDown)
					m.tells(t, what+", off", c)
					fate, cut := byte(k%4), cuts()[k/4]
					s.Crash([]byte{fate}, cut)
					isDown(t, s, c, m)
					switch fate {
					case 0:
						m.opened(t, what, s, 101)
					case 1:
						m.drop(job).opened(t, what, s, 101)
					default:
						p, _ := s.Read(m.head(job))
						m.sectors[m.head(job)] = p
						m.opened(t, what, s, 101)
					}
				}
			}
		}
	}
}

// TestPowerThatWentBefore: whatever is asked for then, the store does nothing any more.
func TestPowerThatWentBefore(t *testing.T) {
	asks := map[string]func(c *image.Store) api.Errno{
		"Put":          func(c *image.Store) api.Errno { return c.Put(one(1, 2, 3)) },
		"a wrong Put":  func(c *image.Store) api.Errno { return c.Put(image.Image{}) },
		"a long Put":   func(c *image.Store) api.Errno { return c.Put(one(1, 2, 500)) },
		"a stale Put":  func(c *image.Store) api.Errno { return c.Put(one(1, 1, 3)) },
		"a full Put":   func(c *image.Store) api.Errno { return c.Put(one(1, 2, make([]int, api.MaxNodes)...)) },
		"Drop":         func(c *image.Store) api.Errno { return c.Drop(1) },
		"Drop of none": func(c *image.Store) api.Errno { return c.Drop(2) },
	}
	for what, ask := range asks {
		s, c, m := fresh(t, 9)
		puts(t, what, s, c, m, one(1, 1, 4))
		s.Arm(1)
		s.Flush()
		m.tells(t, what, c)
		answers(t, what, ask(c), api.ErrDown)
		m.tells(t, what, c)
		s.Crash(nil, 0)
		isDown(t, s, c, m)
		c = m.opened(t, what, s, 9)
		puts(t, what, s, c, m, one(1, 2, 4))
	}
}

// TestPowerThatNobodyMissed: a crash between two calls is none to the store, nor is another error than ErrDown.
func TestPowerThatNobodyMissed(t *testing.T) {
	s, c, m := fresh(t, 9)
	puts(t, "ahead", s, c, m, one(1, 1, 4))
	s.Arm(1)
	s.Flush()
	c.Get(1)
	c.List()
	c.Left()
	s.Crash(nil, 0)
	puts(t, "on again", s, c, m, one(1, 2, 4))
	s.Arm(1)
	for want, x := range map[api.Errno]image.Image{api.ErrArg: {}, api.ErrLong: one(1, 3, 500), api.ErrStale: one(1, 2, 4), api.ErrFull: one(1, 3, make([]int, 16)...)} {
		answers(t, "refused", c.Put(x), want)
	}
	answers(t, "refused", c.Drop(2), api.ErrNone)
	s.Arm(0)
	puts(t, "refused before", s, c, m, one(1, 3, 4))
	drops(t, "refused before", s, c, m, 1)
}

// life is a store's that lives through Puts, Drops and crashes; nothing but what P8.4 says is asked of it behind these.
type life struct {
	t    *testing.T
	r    *rand.Rand
	s    *slab.Slab
	c    *image.Store
	from int
	to   int

	epoch uint32
	vers  map[uint32]uint32 // no version of a job comes twice
	last  map[uint32]image.Image
	were  map[uint32][]image.Image // all Puts that were begun
	drops map[uint32]bool          // jobs that ever were dropped

	cut, done int
}

func newLife(t *testing.T, r *rand.Rand) *life {
	n := 10 + r.Intn(14)
	l := &life{t: t, r: r, s: made(t, n), from: r.Intn(3), to: n - r.Intn(3)}
	l.vers, l.last, l.were, l.drops = map[uint32]uint32{}, map[uint32]image.Image{}, map[uint32][]image.Image{}, map[uint32]bool{}
	l.open(nil)
	return l
}

// open opens the store; under way was a Put of cut, or (nil) none.
func (l *life) open(cut *image.Image) {
	l.t.Helper()
	l.epoch++
	c, e := image.Open(l.s, l.from, l.to, l.epoch)
	answers(l.t, "Open", e, api.OK)
	l.c = c
	taken := 0
	for job := range uint32(5) {
		x, e := c.Get(job)
		last, has := l.last[job]
		isCut := cut != nil && e == api.OK && alike(x, *cut)
		isLast := has && alike(x, last) || !has && e == api.ErrNone
		isOne := slices.ContainsFunc(l.were[job], func(y image.Image) bool { return alike(x, y) })
		if !isCut && !isLast && !(l.drops[job] && (isOne || e == api.ErrNone)) {
			l.t.Fatalf("Get(%d): error %d, %v; it was %v", job, e, x, last)
		}
		delete(l.last, job)
		if e == api.OK {
			l.last[job] = x
			taken += len(x.Blobs) + 1
		}
	}
	if c.Left() != l.to-l.from-taken {
		l.t.Fatalf("Left %d of %d, %d taken", c.Left(), l.to-l.from, taken)
	}
}

// crash has the slab crash, each write with any fate.
func (l *life) crash() {
	fates := make([]byte, l.s.Way())
	for k := range fates {
		fates[k] = byte(l.r.Intn(256))
		if l.r.Intn(2) == 0 {
			fates[k] = 1
		}
	}
	l.s.Crash(fates, l.r.Intn(api.Sector+1))
}

// put has a newer image of some job put; it answers it, if the power went.
func (l *life) put() *image.Image {
	l.t.Helper()
	job := uint32(1 + l.r.Intn(4))
	l.vers[job] += uint32(1 + l.r.Intn(2))
	lengths := make([]int, 1+l.r.Intn(4))
	for k := range lengths {
		lengths[k] = l.r.Intn(9)
	}
	x := one(job, l.vers[job], lengths...)
	free := l.c.Left()
	l.were[job] = append(l.were[job], x)
	switch e := l.c.Put(x); e {
	case api.OK:
		l.last[job] = x
		l.done++
	case api.ErrDown:
		return &x
	default:
		answers(l.t, "Put", e, api.ErrFull)
		if free >= len(lengths)+1 {
			l.t.Fatal("ErrFull, with", free, "left for", len(lengths))
		}
	}
	return nil
}

// drop has some job's image dropped.
func (l *life) drop() {
	l.t.Helper()
	job := uint32(1 + l.r.Intn(2)) // others never are
	if _, ok := l.last[job]; !ok {
		return
	}
	l.drops[job] = true
	if l.c.Drop(job) == api.OK {
		delete(l.last, job)
	}
}

// step has something happen.
func (l *life) step() {
	l.t.Helper()
	if l.r.Intn(3) == 0 {
		l.s.Arm(1 + l.r.Intn(6))
	}
	var cut *image.Image
	if l.r.Intn(6) == 0 {
		l.drop()
	} else {
		cut = l.put()
	}
	if !l.s.On() || l.r.Intn(5) == 0 {
		l.cut++
		l.crash()
		l.open(cut)
	}
	l.s.Arm(0)
}

func TestLives(t *testing.T) {
	r := rand.New(rand.NewSource(1))
	cut, done := 0, 0
	for range 600 {
		l := newLife(t, r)
		for range 60 {
			l.step()
		}
		cut += l.cut
		done += l.done
	}
	if cut < 5000 || done < 5000 {
		t.Error("hardly anything happened:", cut, done)
	}
}
