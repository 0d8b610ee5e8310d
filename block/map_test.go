package block_test

import (
	"math"
	"math/rand"
	"slices"
	"testing"

	"quadrille/block"
)

// takes fails the test unless Take answers just these places.
func takes(t *testing.T, what string, m *block.Map, want ...int) {
	t.Helper()
	left := m.Left()
	if l, ok := m.Take(len(want)); !ok || !slices.Equal(l, want) {
		t.Errorf("%s: Take(%d): %v, %v; want %v", what, len(want), l, ok, want)
	}
	leaves(t, what, m, left-len(want))
}

// takesNone fails the test unless Take answers false, and takes nothing.
func takesNone(t *testing.T, what string, m *block.Map, n int) {
	t.Helper()
	left := m.Left()
	if l, ok := m.Take(n); ok || len(l) != 0 {
		t.Errorf("%s: Take(%d): %d places, %v; want none", what, n, len(l), ok)
	}
	leaves(t, what, m, left)
}

// leaves fails the test unless so many places are free.
func leaves(t *testing.T, what string, m *block.Map, n int) {
	t.Helper()
	if m.Left() != n {
		t.Errorf("%s: Left %d, want %d", what, m.Left(), n)
	}
}

// says fails the test unless the answer is the one that is wanted.
func says(t *testing.T, what string, got, want bool) {
	t.Helper()
	if got != want {
		t.Errorf("%s: %v", what, got)
	}
}

func TestMapExample(t *testing.T) {
	m := block.NewMap(3)
	leaves(t, "new", m, 3)
	takes(t, "new", m, 0, 1)
	says(t, "Free(0)", m.Free(0), true)
	takes(t, "one free again", m, 0, 2)
	takesNone(t, "none is left", m, 1)
	takes(t, "none is left, none is asked", m)
}

func TestMapOfNothing(t *testing.T) {
	for _, n := range []int{0, -1, -5, math.MinInt32, math.MinInt} {
		m := block.NewMap(n)
		if m == nil {
			t.Fatalf("NewMap(%d): nil", n)
		}
		leaves(t, "no places", m, 0)
		takes(t, "no places", m)
		takesNone(t, "no places", m, 1)
		for _, i := range []int{n, -1, 0, 1, math.MaxInt} {
			says(t, "Mark", m.Mark(i), false)
			says(t, "Free", m.Free(i), false)
		}
		leaves(t, "no places", m, 0)
	}
}

func TestTakeTooMany(t *testing.T) {
	m := block.NewMap(4)
	for _, n := range []int{5, 6, 1 << 20, 1 << 31, math.MaxInt, -1, -2, math.MinInt32, math.MinInt} {
		takesNone(t, "of four", m, n)
	}
	takes(t, "all", m, 0, 1, 2, 3)
	takesNone(t, "of none", m, 1)
	m.Free(2)
	takesNone(t, "of one", m, 2)
	takes(t, "of one", m, 2)
}

func TestMarkAndFree(t *testing.T) {
	m := block.NewMap(5)
	for _, i := range []int{math.MinInt, -1, 5, 6, math.MaxInt} {
		says(t, "Mark of no place", m.Mark(i), false)
		says(t, "Free of no place", m.Free(i), false)
	}
	for i := range 5 {
		says(t, "Free of what is free", m.Free(i), false)
	}
	leaves(t, "nothing happened", m, 5)
	says(t, "Mark in the middle", m.Mark(2), true)
	says(t, "Mark again", m.Mark(2), false)
	leaves(t, "one is marked", m, 4)
	says(t, "Mark at the end", m.Mark(4), true)
	says(t, "Mark at the beginning", m.Mark(0), true)
	takes(t, "what lies between", m, 1, 3)
	for i := range 5 {
		says(t, "Mark of what isn't free", m.Mark(i), false)
	}
	for _, i := range []int{3, 1, 2, 4, 0} {
		says(t, "Free", m.Free(i), true)
		says(t, "Free again", m.Free(i), false)
	}
	takes(t, "all again", m, 0, 1, 2, 3, 4)
}

func TestNilMap(t *testing.T) {
	var m *block.Map
	for _, n := range []int{math.MinInt, -1, 0, 1, math.MaxInt} {
		takesNone(t, "nil", m, n)
		says(t, "Mark", m.Mark(n), false)
		says(t, "Free", m.Free(n), false)
	}
	leaves(t, "nil", m, 0)
}

// TestGreatMap: more places than there is memory for.
func TestGreatMap(t *testing.T) {
	m := block.NewMap(math.MaxInt)
	leaves(t, "new", m, math.MaxInt)
	takes(t, "the first", m, 0, 1, 2)
	says(t, "Mark", m.Mark(math.MaxInt-1), true)
	says(t, "Mark again", m.Mark(math.MaxInt-1), false)
	says(t, "Mark of no place", m.Mark(math.MaxInt), false)
	says(t, "Free of no place", m.Free(math.MaxInt), false)
	says(t, "Mark", m.Mark(math.MaxInt/2), true)
	leaves(t, "two marked", m, math.MaxInt-5)
	says(t, "Free", m.Free(math.MaxInt-1), true)
	says(t, "Free", m.Free(1), true)
	takes(t, "those in front", m, 1, 3, 4)
	takesNone(t, "more than there are", m, math.MaxInt)
	leaves(t, "behind all", m, math.MaxInt-6)
	if l, ok := block.NewMap(math.MaxInt).Take(math.MaxInt); ok || len(l) != 0 {
		t.Errorf("more than a call may answer: %d places, %v", len(l), ok)
	}
}

// TestMapAgainstTheModel: a list of which place is free.
func TestMapAgainstTheModel(t *testing.T) {
	for seed := range 80 {
		r := rand.New(rand.NewSource(int64(seed)))
		n := r.Intn(70)
		m := block.NewMap(n)
		free := make([]bool, n)
		for i := range free {
			free[i] = true
		}
		for range 400 {
			i := r.Intn(n+4) - 2
			there := i >= 0 && i < n
			switch r.Intn(5) {
			case 0:
				says(t, "Mark", m.Mark(i), there && free[i])
				if there {
					free[i] = false
				}
			case 1, 2, 3:
				says(t, "Free", m.Free(i), there && !free[i])
				if there {
					free[i] = true
				}
			default:
				var least []int
				k := r.Intn(5)
				for i := range free {
					if free[i] && len(least) < k {
						least = append(least, i)
					}
				}
				if len(least) < k {
					takesNone(t, "too few", m, k)
					break
				}
				takes(t, "enough", m, least...)
				for _, i := range least {
					free[i] = false
				}
			}
			left := 0
			for i := range free {
				if free[i] {
					left++
				}
			}
			leaves(t, "the model", m, left)
		}
	}
}

func TestTakenPlacesAreNewMemory(t *testing.T) {
	m := block.NewMap(9)
	first, _ := m.Take(3)
	second, _ := m.Take(3)
	for i := range first[:cap(first)] {
		first[:cap(first)][i] = 77
	}
	if !slices.Equal(second, []int{3, 4, 5}) {
		t.Errorf("two answers share: %v", second)
	}
	takes(t, "behind a scribble", m, 6, 7, 8)
	says(t, "Free", m.Free(1), true)
	takes(t, "behind a scribble", m, 1)
	if !slices.Equal(second, []int{3, 4, 5}) {
		t.Errorf("an answer changed behind its call: %v", second)
	}
}

// TestMapsAreTheirOwn: what the one is told the other doesn't know.
func TestMapsAreTheirOwn(t *testing.T) {
	a, b := block.NewMap(3), block.NewMap(3)
	a.Mark(0)
	takes(t, "the other", b, 0, 1, 2)
	takes(t, "the one", a, 1, 2)
}
