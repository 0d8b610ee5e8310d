package rows_test

import (
	"cmp"
	"maps"
	"math/rand"
	"slices"
	"testing"

	"quadrille/api"
	"quadrille/rows"
)

// standing is where a job stands.
type standing struct {
	job   uint32
	row   int
	nodes []int
}

// model is a matrix as a list of who stands where.
type model struct {
	rows int
	up   []bool
	jobs []standing
}

// of answers at which place in the list the job is, or -1.
func (m *model) of(job uint32) int {
	return slices.IndexFunc(m.jobs, func(s standing) bool { return s.job == job })
}

// at answers the job of a cell.
func (m *model) at(row, node int) uint32 {
	for _, s := range m.jobs {
		if s.row == row && slices.Contains(s.nodes, node) {
			return s.job
		}
	}
	return 0
}

// free answers the nodes that are up and free in the row.
func (m *model) free(row int) []int {
	var l []int
	for node, up := range m.up {
		if up && m.at(row, node) == 0 {
			l = append(l, node)
		}
	}
	return l
}

func (m *model) place(job uint32, k int) (int, []int, api.Errno) {
	switch {
	case job == 0 || k < 1:
		return 0, nil, api.ErrArg
	case m.of(job) >= 0:
		return 0, nil, api.ErrTwice
	case k > len(m.up):
		return 0, nil, api.ErrWide
	}
	for row := range m.rows {
		if l := m.free(row); len(l) >= k {
			m.jobs = append(m.jobs, standing{job, row, l[:k]})
			return row, l[:k], api.OK
		}
	}
	return 0, nil, api.ErrFull
}

func (m *model) put(job uint32, row int, nodes []int) api.Errno {
	if job == 0 || row < 0 || row >= m.rows || len(nodes) == 0 {
		return api.ErrArg
	}
	for i, node := range nodes {
		if node < 0 || node >= len(m.up) || i > 0 && node <= nodes[i-1] {
			return api.ErrArg
		}
	}
	if m.of(job) >= 0 {
		return api.ErrTwice
	}
	for _, node := range nodes {
		if m.at(row, node) != 0 {
			return api.ErrBusy
		}
	}
	m.jobs = append(m.jobs, standing{job, row, slices.Clone(nodes)})
	return api.OK
}

func (m *model) remove(job uint32) api.Errno {
	i := m.of(job)
	if i < 0 {
		return api.ErrNone
	}
	m.jobs = slices.Delete(m.jobs, i, i+1)
	return api.OK
}

// row answers who stands in a row, by their least nodes.
func (m *model) row(row int) []standing {
	var l []standing
	for _, s := range m.jobs {
		if s.row == row {
			l = append(l, s)
		}
	}
	slices.SortFunc(l, func(a, b standing) int { return cmp.Compare(a.nodes[0], b.nodes[0]) })
	return l
}

func (m *model) fill(row int) []uint32 {
	var jobs []uint32
	taken := map[int]bool{}
	if row < 0 || row >= m.rows {
		return nil
	}
	for other := range m.rows {
		for _, s := range m.row(other) {
			goes := other != row
			for _, node := range s.nodes {
				goes = goes && m.at(row, node) == 0 && !taken[node]
			}
			if goes {
				jobs = append(jobs, s.job)
				maps.Copy(taken, set(s.nodes))
			}
		}
	}
	return jobs
}

func set(l []int) map[int]bool {
	s := map[int]bool{}
	for _, x := range l {
		s[x] = true
	}
	return s
}

func (m *model) next(row int) (int, bool) {
	var round []int
	for r := range m.rows {
		round = append(round, r)
	}
	if row >= 0 && row < m.rows {
		round = append(round[row+1:], round[:row+1]...)
	}
	for _, r := range round {
		if len(m.row(r)) > 0 {
			return r, true
		}
	}
	return 0, false
}

// numbers answers the jobs' numbers, in the order in which they are.
func numbers(l []standing) []uint32 {
	var jobs []uint32
	for _, s := range l {
		jobs = append(jobs, s.job)
	}
	return jobs
}

// TestAgainstModel holds what a matrix answers, call by call, against a list of who stands where; now and then the matrix is its own copy.
func TestAgainstModel(t *testing.T) {
	for seed := range int64(300) {
		r := rand.New(rand.NewSource(seed))
		rowCount, nodeCount := 1+r.Intn(api.MaxRows), 1+r.Intn(api.MaxNodes)
		m, plain := made(t, rowCount, nodeCount), &model{rows: rowCount, up: make([]bool, nodeCount)}
		for node := range plain.up {
			plain.up[node] = true
		}
		for range 120 {
			step(t, r, m, plain)
			agree(t, m, plain)
			if r.Intn(9) == 0 {
				m = m.Copy()
			}
		}
	}
}

// step does one call to both, and fails the test unless they answer the same.
func step(t *testing.T, r *rand.Rand, m *rows.Matrix, plain *model) {
	t.Helper()
	job, row := uint32(r.Intn(25)), r.Intn(plain.rows+2)-1
	switch r.Intn(8) {
	case 0, 1, 2:
		k := min(r.Intn(len(plain.up)+3), r.Intn(9))
		gotRow, got, e := m.Place(job, k)
		wantRow, want, wrong := plain.place(job, k)
		if gotRow != wantRow || !slices.Equal(got, want) || e != wrong {
			t.Fatalf("Place(%d, %d): %d, %v, error %d; want %d, %v, error %d", job, k, gotRow, got, e, wantRow, want, wrong)
		}
	case 3, 4:
		nodes := some(r, len(plain.up))
		answers(t, "Put", m.Put(job, row, nodes), plain.put(job, row, nodes))
	case 5, 6:
		answers(t, "Remove", m.Remove(job), plain.remove(job))
	case 7:
		node, up := r.Intn(len(plain.up)), r.Intn(3) > 0
		answers(t, "Up", m.Up(node, up), api.OK)
		plain.up[node] = up
	}
}

// some answers some nodes, that rise mostly, and are there mostly.
func some(r *rand.Rand, nodeCount int) []int {
	var l []int
	for node := range nodeCount {
		if r.Intn(4) == 0 {
			l = append(l, node)
		}
	}
	switch r.Intn(12) {
	case 0:
		slices.Reverse(l)
	case 1:
		l = append(l, nodeCount)
	case 2:
		l = slices.Insert(l, 0, -1)
	case 3:
		l = append(l, l...)
	}
	return l
}

// agree fails the test unless both tell the same.
func agree(t *testing.T, m *rows.Matrix, plain *model) {
	t.Helper()
	for row := -1; row <= plain.rows; row++ {
		lists(t, "Row", m.Row(row), numbers(plain.row(row))...)
		lists(t, "Fill", m.Fill(row), plain.fill(row)...)
		next, ok := m.Next(row)
		if want, there := plain.next(row); next != want || ok != there {
			t.Fatalf("Next(%d): %d, %v; want %d, %v", row, next, ok, want, there)
		}
		free := 0
		if row >= 0 && row < plain.rows {
			free = len(plain.free(row))
		}
		if got := m.Free(row); got != free {
			t.Fatalf("Free(%d): %d, want %d", row, got, free)
		}
		for node := -1; node <= len(plain.up); node++ {
			if got, want := m.At(row, node), plain.at(row, node); got != want {
				t.Fatalf("At(%d, %d): %d, want %d", row, node, got, want)
			}
		}
	}
	for node, up := range plain.up {
		if m.IsUp(node) != up {
			t.Fatalf("IsUp(%d): %v", node, !up)
		}
	}
	jobs := numbers(plain.jobs)
	slices.Sort(jobs)
	lists(t, "Jobs", m.Jobs(), jobs...)
	for _, s := range plain.jobs {
		stands(t, m, s.job, s.row, s.nodes...)
	}
}
