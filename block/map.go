package block

import (
	"slices"
	"sort"
)

// mostItems is how many items a call may answer at most: a list of more of them is not tried.
const mostItems = 1<<31 - 1

// run is places that follow one another: from the one to ahead of the other.
type run struct {
	from int
	upto int
}

// Map is places that are free, or not. It keeps runs, not places: of these there may be as many as an int can count.
type Map struct {
	size int
	left int
	free []run // rising, none is empty, and no two touch
}

// NewMap answers n places, all free.
func NewMap(n int) *Map {
	if n <= 0 {
		return &Map{}
	}
	return &Map{size: n, left: n, free: []run{{0, n}}}
}

// Take answers the n least places that are free, which are not free any more; false: there are not so many.
func (m *Map) Take(n int) ([]int, bool) {
	if m == nil || n < 0 || n > min(m.left, mostItems) {
		return nil, false
	}
	l := make([]int, 0, n)
	whole := 0 // runs that are taken whole
	for len(l) < n {
		r := &m.free[whole]
		for r.from < r.upto && len(l) < n {
			l = append(l, r.from)
			r.from++
		}
		if r.from == r.upto {
			whole++
		}
	}
	m.free = slices.Delete(m.free, 0, whole)
	m.left -= n
	return l, true
}

// Mark has the place i not free any more; false: it wasn't, or there is none such.
func (m *Map) Mark(i int) bool {
	if m == nil {
		return false
	}
	k, free := m.find(i)
	if !free {
		return false
	}
	var sides []run // what the run keeps
	if r := m.free[k]; r.from < i {
		sides = append(sides, run{r.from, i})
	}
	if r := m.free[k]; i+1 < r.upto {
		sides = append(sides, run{i + 1, r.upto})
	}
	m.free = slices.Replace(m.free, k, k+1, sides...)
	m.left--
	return true
}

// Free has the place i free; false: it was, or there is none such.
func (m *Map) Free(i int) bool {
	if m == nil || i < 0 || i >= m.size {
		return false
	}
	k, free := m.find(i)
	if free {
		return false
	}
	joined := run{i, i + 1}
	first, behind := k, k // the runs that it touches
	if k > 0 && m.free[k-1].upto == i {
		first--
		joined.from = m.free[first].from
	}
	if k < len(m.free) && m.free[k].from == i+1 {
		joined.upto = m.free[k].upto
		behind++
	}
	m.free = slices.Replace(m.free, first, behind, joined)
	m.left++
	return true
}

// Left answers how many places are free.
func (m *Map) Left() int {
	if m == nil {
		return 0
	}
	return m.left
}

// find answers the place of the first run that doesn't end ahead of i, and whether i is in it.
func (m *Map) find(i int) (int, bool) {
	k := sort.Search(len(m.free), func(k int) bool { return m.free[k].upto > i })
	return k, k < len(m.free) && m.free[k].from <= i
}
