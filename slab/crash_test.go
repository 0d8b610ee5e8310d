package slab_test

import (
	"math"
	"testing"

	"quadrille/api"
	"quadrille/slab"
)

func TestArmedStep(t *testing.T) {
	for n := 1; n <= 20; n++ {
		s := made(t, 1)
		s.Write(0, pattern(1, 1))
		answers(t, "Arm", s.Arm(n), api.OK)
		for k := 1; k < n; k++ {
			answers(t, "ahead of the step", s.Write(0, pattern(2, k)), api.OK)
			stands(t, "ahead of the step", s, true, k+1, k+1)
		}
		answers(t, "the step", s.Write(0, pattern(3, 99)), api.ErrDown)
		stands(t, "the step", s, false, n+1, n+1)
		answers(t, "Write, off", s.Write(0, nil), api.ErrDown)
		answers(t, "Flush, off", s.Flush(), api.ErrDown)
		stands(t, "off", s, false, n+1, n+1)
		fates := make([]byte, n+1)
		fates[n] = 1
		answers(t, "Crash", s.Crash(fates, 0), api.OK)
		has(t, "the write at which the power went", s, 0, pattern(3, 99))
		stands(t, "back", s, true, n+1, 0)
	}
}

func TestArmedFlushIsNotDone(t *testing.T) {
	for _, fate := range []byte{0, 1} {
		s := made(t, 1)
		s.Write(0, pattern(3, 1))
		s.Flush()
		s.Write(0, pattern(3, 2))
		s.Arm(1)
		answers(t, "Flush", s.Flush(), api.ErrDown)
		stands(t, "Flush", s, false, 4, 1)
		s.Crash([]byte{fate}, 0)
		has(t, "behind the crash", s, 0, pattern(3, 1+int(fate)))
		stands(t, "behind the crash", s, true, 4, 0)
	}
}

func TestOnlyStepsCount(t *testing.T) {
	s := made(t, 2)
	s.Arm(2)
	for range 5 {
		s.Read(0)
		s.Read(7)
		s.Len()
		s.On()
		s.Steps()
		s.Way()
		s.Write(2, nil)
		s.Write(0, make([]byte, api.Sector+1))
	}
	stands(t, "no steps", s, true, 0, 0)
	answers(t, "the first step", s.Flush(), api.OK)
	s.Write(-1, nil)
	answers(t, "the second step", s.Flush(), api.ErrDown)
	stands(t, "both", s, false, 2, 0)
}

func TestArmAgain(t *testing.T) {
	for _, n := range []int{-1, -2, math.MinInt32, math.MinInt} {
		s := made(t, 1)
		answers(t, "Arm below 0", s.Arm(n), api.ErrArg)
		answers(t, "not armed", s.Flush(), api.OK)
		s.Arm(2)
		answers(t, "Arm below 0", s.Arm(n), api.ErrArg)
		answers(t, "armed as it was", s.Flush(), api.OK)
		answers(t, "Arm below 0", s.Arm(n), api.ErrArg)
		answers(t, "armed as it was", s.Flush(), api.ErrDown)
		answers(t, "Arm below 0, off", s.Arm(n), api.ErrArg)
	}
	s := made(t, 1)
	s.Arm(1)
	answers(t, "Arm(0)", s.Arm(0), api.OK)
	for range 10 {
		answers(t, "armed at none", s.Flush(), api.OK)
	}
	s.Arm(1)
	s.Arm(3)
	answers(t, "later", s.Flush(), api.OK)
	answers(t, "later", s.Flush(), api.OK)
	s.Arm(2)
	answers(t, "later still", s.Flush(), api.OK)
	s.Arm(5)
	s.Arm(1)
	answers(t, "sooner", s.Flush(), api.ErrDown)
	stands(t, "off", s, false, 14, 0)
	answers(t, "the greatest", s.Arm(math.MaxInt), api.OK)
	s.Crash(nil, 0)
	s.Arm(math.MaxInt)
	for range 10 {
		answers(t, "the greatest", s.Flush(), api.OK)
	}
}

func TestCrashLeavesNothingArmed(t *testing.T) {
	s := made(t, 1)
	s.Arm(1)
	answers(t, "Crash", s.Crash(nil, 0), api.OK)
	answers(t, "on all the time", s.Flush(), api.OK)
	s.Arm(1)
	s.Flush()
	s.Arm(1)
	stands(t, "armed while it is off", s, false, 2, 0)
	answers(t, "Crash", s.Crash(nil, 0), api.OK)
	for range 5 {
		answers(t, "nothing is armed", s.Flush(), api.OK)
	}
	stands(t, "on", s, true, 7, 0)
}

// torn answers what a sector of old has behind a write of p, of that fate.
func torn(old, p []byte, fate, cut int) []byte {
	full := make([]byte, 2*api.Sector)
	copy(full[:api.Sector], old)
	copy(full[api.Sector:], p)
	var l []byte
	for i := range api.Sector {
		first := i < cut
		if fate == 1 || fate == 2 && first || fate == 3 && !first {
			l = append(l, full[api.Sector+i])
		} else {
			l = append(l, full[i])
		}
	}
	return l
}

func TestFates(t *testing.T) {
	cuts := []int{math.MinInt, -1, 0, 1, 2, 63, 64, api.Sector - 1, api.Sector, api.Sector + 1, 256, math.MaxInt}
	for fate := range 256 {
		for _, cut := range cuts {
			for _, off := range []bool{false, true} {
				s := made(t, 3)
				s.Write(1, pattern(api.Sector, 1))
				s.Flush()
				if off {
					s.Arm(1)
				}
				s.Write(1, pattern(70, 2))
				answers(t, "Crash", s.Crash([]byte{byte(fate)}, cut), api.OK)
				stands(t, "Crash", s, true, 3, 0)
				has(t, "its sector", s, 1, torn(pattern(api.Sector, 1), pattern(70, 2), fate%4, cut))
				has(t, "the one ahead", s, 0, nil)
				has(t, "the one behind", s, 2, nil)
			}
		}
	}
}

func TestEveryCut(t *testing.T) {
	for cut := range api.Sector + 1 {
		s := made(t, 2)
		s.Write(0, pattern(api.Sector, 1))
		s.Write(1, pattern(api.Sector, 2))
		s.Flush()
		s.Write(0, pattern(api.Sector, 3))
		s.Write(1, pattern(api.Sector, 4))
		s.Crash([]byte{2, 3}, cut)
		has(t, "its front", s, 0, torn(pattern(api.Sector, 1), pattern(api.Sector, 3), 2, cut))
		has(t, "its rest", s, 1, torn(pattern(api.Sector, 2), pattern(api.Sector, 4), 3, cut))
	}
}

func TestNoughtsBehindAShortWriteAreOfIt(t *testing.T) {
	s := made(t, 2)
	for i := range 2 {
		s.Write(i, pattern(api.Sector, i))
	}
	s.Flush()
	for i := range 2 {
		s.Write(i, []byte{7, 8})
	}
	s.Crash([]byte{2, 3}, 10)
	front := append([]byte{7, 8, 0, 0, 0, 0, 0, 0, 0, 0}, pattern(api.Sector, 0)[10:]...)
	has(t, "ten bytes are done", s, 0, front)
	has(t, "the others are done", s, 1, pattern(api.Sector, 1)[:10])
}

func TestFewerOrMoreFates(t *testing.T) {
	write := func(flushed int) *slab.Slab {
		s := made(t, 4)
		for i := range 4 {
			s.Write(i, pattern(5, i))
			if i+1 == flushed {
				s.Flush()
			}
		}
		return s
	}
	for n := range 9 {
		s := write(0)
		fates := make([]byte, n)
		for k := range fates {
			fates[k] = 1
		}
		answers(t, "Crash", s.Crash(fates, 0), api.OK)
		for i := range 4 {
			if i < n {
				has(t, "with a fate", s, i, pattern(5, i))
			} else {
				has(t, "without a fate", s, i, nil)
			}
		}
	}
	s := write(2)
	stands(t, "flushed at the second", s, true, 5, 2)
	s.Crash([]byte{0, 1}, 0)
	has(t, "flushed", s, 0, pattern(5, 0))
	has(t, "flushed", s, 1, pattern(5, 1))
	has(t, "the first under way: lost", s, 2, nil)
	has(t, "the second under way: done", s, 3, pattern(5, 3))
}

func TestFatesOfOneSectorInOrder(t *testing.T) {
	for a := range 4 {
		for b := range 4 {
			for c := range 4 {
				s := made(t, 1)
				s.Write(0, pattern(api.Sector, 1))
				s.Flush()
				want := pattern(api.Sector, 1)
				for k, fate := range []int{a, b, c} {
					p := pattern(30+20*k, 2+k)
					s.Write(0, p)
					want = torn(want, p, fate, 55)
				}
				s.Crash([]byte{byte(a), byte(b), byte(c)}, 55)
				has(t, "three writes", s, 0, want)
				s.Crash([]byte{1, 1, 1, 1}, 0)
				has(t, "crashed again", s, 0, want)
				s.Write(0, nil)
				s.Crash(nil, 0)
				has(t, "another one lost", s, 0, want)
			}
		}
	}
}

func TestExample(t *testing.T) {
	s := made(t, 2)
	s.Write(0, []byte{1, 2})
	s.Flush()
	s.Write(0, []byte{3, 4})
	s.Crash([]byte{2}, 1)
	has(t, "torn", s, 0, []byte{3, 2})

	s = made(t, 2)
	s.Write(0, []byte{1, 2})
	s.Flush()
	s.Write(0, []byte{3, 4})
	s.Crash(nil, 1)
	has(t, "as it was", s, 0, []byte{1, 2})
}
