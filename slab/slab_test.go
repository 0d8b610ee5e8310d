package slab_test

import (
	"bytes"
	"math"
	"testing"

	"quadrille/api"
	"quadrille/slab"
)

// made answers a new slab of n sectors.
func made(t *testing.T, n int) *slab.Slab {
	t.Helper()
	s, e := slab.New(n)
	if e != api.OK || s == nil {
		t.Fatalf("New(%d): error %d", n, e)
	}
	return s
}

// answers fails the test unless the error is the one that is wanted.
func answers(t *testing.T, what string, got, want api.Errno) {
	t.Helper()
	if got != want {
		t.Errorf("%s: error %d, want %d", what, got, want)
	}
}

// has fails the test unless the sector i has p in front and noughts behind.
func has(t *testing.T, what string, s *slab.Slab, i int, p []byte) {
	t.Helper()
	full := make([]byte, api.Sector)
	copy(full, p)
	got, e := s.Read(i)
	if e != api.OK || !bytes.Equal(got, full) {
		t.Errorf("%s: sector %d: error %d, % x; want % x", what, i, e, got, full)
	}
}

// stands fails the test unless the slab tells of itself just this.
func stands(t *testing.T, what string, s *slab.Slab, on bool, steps, way int) {
	t.Helper()
	if s.On() != on || s.Steps() != steps || s.Way() != way {
		t.Errorf("%s: On %v, Steps %d, Way %d; want %v, %d, %d", what, s.On(), s.Steps(), s.Way(), on, steps, way)
	}
}

// pattern answers n bytes that differ from one to the next, none of them 0, another row of them for each seed.
func pattern(n, seed int) []byte {
	p := make([]byte, n)
	for i := range p {
		p[i] = byte(1 + (i*5+seed*31)%255)
	}
	return p
}

func TestNewHasNoughts(t *testing.T) {
	for _, n := range []int{1, 2, 3, 100, api.MaxSectors - 1, api.MaxSectors} {
		s := made(t, n)
		stands(t, "new", s, true, 0, 0)
		if s.Len() != n {
			t.Errorf("New(%d): Len %d", n, s.Len())
		}
		for i := range n {
			has(t, "new", s, i, nil)
		}
	}
}

func TestNewOutsideItsRange(t *testing.T) {
	for _, n := range []int{math.MinInt, -api.MaxSectors, -1, 0, api.MaxSectors + 1, 1 << 31, math.MaxInt} {
		s, e := slab.New(n)
		answers(t, "New", e, api.ErrArg)
		if s != nil {
			t.Errorf("New(%d): a slab beside an error", n)
		}
	}
}

func TestWriteIsReadAtOnce(t *testing.T) {
	s := made(t, 3)
	for n := range api.Sector + 1 {
		answers(t, "full", s.Write(1, pattern(api.Sector, n)), api.OK)
		answers(t, "Write", s.Write(1, pattern(n, n+1)), api.OK)
		has(t, "written", s, 1, pattern(n, n+1))
		has(t, "ahead of it", s, 0, nil)
		has(t, "behind it", s, 2, nil)
		stands(t, "written", s, true, 2*n+2, 2*n+2)
	}
	answers(t, "Write of nil", s.Write(1, nil), api.OK)
	has(t, "nil", s, 1, nil)
	answers(t, "Write", s.Write(1, pattern(5, 5)), api.OK)
	answers(t, "Write of nothing", s.Write(1, []byte{}), api.OK)
	has(t, "nothing", s, 1, nil)
}

func TestEachSectorIsItsOwn(t *testing.T) {
	s := made(t, api.MaxSectors)
	for i := range api.MaxSectors {
		answers(t, "Write", s.Write(i, pattern(i%(api.Sector+1), i)), api.OK)
	}
	for i := range api.MaxSectors {
		has(t, "written", s, i, pattern(i%(api.Sector+1), i))
	}
	stands(t, "all", s, true, api.MaxSectors, api.MaxSectors)
	answers(t, "Flush", s.Flush(), api.OK)
	answers(t, "Crash", s.Crash(nil, 0), api.OK)
	for i := range api.MaxSectors {
		has(t, "flushed", s, i, pattern(i%(api.Sector+1), i))
	}
	stands(t, "all", s, true, api.MaxSectors+1, 0)
}

// wrongPlaces answers numbers of no sector of n.
func wrongPlaces(n int) []int {
	return []int{math.MinInt, math.MinInt32, -n, -1, n, n + 1, api.MaxSectors, 1 << 32, math.MaxInt}
}

func TestWriteRefused(t *testing.T) {
	s := made(t, 2)
	answers(t, "Write", s.Write(0, pattern(9, 1)), api.OK)
	answers(t, "Arm", s.Arm(1), api.OK)
	refused := func() {
		for _, i := range wrongPlaces(2) {
			answers(t, "no such sector", s.Write(i, nil), api.ErrArg)
			answers(t, "nor so many bytes", s.Write(i, make([]byte, api.Sector+1)), api.ErrArg)
		}
		for _, n := range []int{api.Sector + 1, api.Sector + 2, 256, api.MaxBytes, 1 << 16} {
			answers(t, "too many bytes", s.Write(0, pattern(n, 2)), api.ErrLong)
			answers(t, "too many bytes", s.Write(1, make([]byte, n)), api.ErrLong)
		}
	}
	refused()
	stands(t, "refused", s, true, 1, 1)
	has(t, "refused", s, 0, pattern(9, 1))
	has(t, "refused", s, 1, nil)
	answers(t, "the armed step", s.Write(1, pattern(4, 3)), api.ErrDown)
	refused()
	answers(t, "the power is off", s.Write(1, nil), api.ErrDown)
	answers(t, "the power is off", s.Write(0, make([]byte, api.Sector)), api.ErrDown)
	stands(t, "refused, the power off", s, false, 2, 2)
	answers(t, "Crash", s.Crash([]byte{1, 1, 1, 1}, 0), api.OK)
	has(t, "behind all", s, 0, pattern(9, 1))
	has(t, "behind all", s, 1, pattern(4, 3))
}

func TestReadRefused(t *testing.T) {
	s := made(t, 2)
	refused := func(e api.Errno, i int) {
		t.Helper()
		p, got := s.Read(i)
		answers(t, "Read", got, e)
		if len(p) != 0 {
			t.Errorf("Read(%d): % x beside an error", i, p)
		}
	}
	for _, i := range wrongPlaces(2) {
		refused(api.ErrArg, i)
	}
	s.Arm(1)
	s.Flush()
	for _, i := range wrongPlaces(2) {
		refused(api.ErrArg, i)
	}
	refused(api.ErrDown, 0)
	refused(api.ErrDown, 1)
	stands(t, "read", s, false, 1, 0)
	s.Crash(nil, 0)
	has(t, "the power is back", s, 0, nil)
	has(t, "the power is back", s, 1, nil)
	stands(t, "read", s, true, 1, 0)
}

func TestFlushHasAllDone(t *testing.T) {
	s := made(t, 2)
	answers(t, "Flush of nothing", s.Flush(), api.OK)
	stands(t, "Flush of nothing", s, true, 1, 0)
	s.Write(0, pattern(3, 1))
	s.Write(1, pattern(4, 2))
	s.Write(0, pattern(5, 3))
	stands(t, "written", s, true, 4, 3)
	answers(t, "Flush", s.Flush(), api.OK)
	stands(t, "flushed", s, true, 5, 0)
	has(t, "flushed", s, 0, pattern(5, 3))
	has(t, "flushed", s, 1, pattern(4, 2))
	answers(t, "Flush", s.Flush(), api.OK)
	stands(t, "flushed again", s, true, 6, 0)
	s.Write(0, pattern(6, 4))
	answers(t, "Crash", s.Crash(nil, 0), api.OK)
	has(t, "flushed ahead of the crash", s, 0, pattern(5, 3))
	has(t, "flushed ahead of the crash", s, 1, pattern(4, 2))
	stands(t, "behind the crash", s, true, 7, 0)
}

func TestNilSlab(t *testing.T) {
	var s *slab.Slab
	for _, i := range append(wrongPlaces(2), 0, 1) {
		answers(t, "Write", s.Write(i, nil), api.ErrNone)
		answers(t, "Write", s.Write(i, make([]byte, api.Sector+1)), api.ErrNone)
		p, e := s.Read(i)
		answers(t, "Read", e, api.ErrNone)
		if len(p) != 0 {
			t.Errorf("Read: % x", p)
		}
		answers(t, "Arm", s.Arm(i), api.ErrNone)
		answers(t, "Crash", s.Crash([]byte{1}, i), api.ErrNone)
	}
	answers(t, "Flush", s.Flush(), api.ErrNone)
	answers(t, "Crash", s.Crash(nil, 0), api.ErrNone)
	stands(t, "nil", s, false, 0, 0)
	if s.Len() != 0 {
		t.Errorf("Len %d", s.Len())
	}
}

// scribble writes over p and its spare room.
func scribble(p []byte) {
	p = p[:cap(p)]
	for i := range p {
		p[i] ^= 0xa5
	}
}

func TestMemoryIsNotShared(t *testing.T) {
	s := made(t, 2)
	room := pattern(40, 7)
	answers(t, "Write", s.Write(0, room[:10]), api.OK)
	if !bytes.Equal(room, pattern(40, 7)) {
		t.Error("Write changed what it was handed")
	}
	scribble(room)
	has(t, "behind a scribble on what was written", s, 0, pattern(10, 7))
	p, _ := s.Read(0)
	q, _ := s.Read(0)
	scribble(p)
	if !bytes.Equal(q[:10], pattern(10, 7)) {
		t.Error("two answers share")
	}
	has(t, "behind a scribble on what was read", s, 0, pattern(10, 7))
	fates := []byte{1, 2, 3}
	answers(t, "Crash", s.Crash(fates[:1], 3), api.OK)
	if !bytes.Equal(fates, []byte{1, 2, 3}) {
		t.Error("Crash changed what it was handed")
	}
	scribble(q)
	scribble(fates)
	has(t, "behind the crash", s, 0, pattern(10, 7))

	s.Write(1, pattern(6, 1))
	p, _ = s.Read(1)
	s.Write(1, pattern(6, 2))
	s.Flush()
	s.Crash(nil, 0)
	if !bytes.Equal(p[:6], pattern(6, 1)) {
		t.Error("an answer changed behind its call")
	}
}

func TestSlabsAreTheirOwn(t *testing.T) {
	a, b := made(t, 2), made(t, 2)
	a.Write(0, pattern(3, 1))
	a.Arm(1)
	a.Flush()
	stands(t, "the one", a, false, 2, 1)
	stands(t, "the other", b, true, 0, 0)
	has(t, "the other", b, 0, nil)
}
