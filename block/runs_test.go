package block

import (
	"math"
	"math/rand"
	"testing"
)

// tight fails the test unless the runs are as few as can be: what a map keeps must not grow with what it was told.
func tight(t *testing.T, m *Map) {
	t.Helper()
	behind := -1
	left := 0
	for _, r := range m.free {
		if r.from <= behind || r.from >= r.upto || r.upto > m.size {
			t.Fatalf("runs %v of %d places", m.free, m.size)
		}
		behind = r.upto
		left += r.upto - r.from
	}
	if left != m.left {
		t.Fatalf("runs %v have %d places, %d are left", m.free, left, m.left)
	}
}

func TestRunsAreTight(t *testing.T) {
	for _, n := range []int{math.MinInt, -1, 0, 1, math.MaxInt} {
		tight(t, NewMap(n))
	}
	for seed := range 40 {
		r := rand.New(rand.NewSource(int64(seed)))
		n := 1 + r.Intn(30)
		m := NewMap(n)
		for range 300 {
			switch r.Intn(4) {
			case 0:
				m.Mark(r.Intn(n))
			case 1:
				m.Take(r.Intn(4))
			default:
				m.Free(r.Intn(n))
			}
			tight(t, m)
		}
		for i := range n {
			m.Free(i)
		}
		if tight(t, m); len(m.free) != 1 {
			t.Fatalf("all is free: %v", m.free)
		}
	}
}
