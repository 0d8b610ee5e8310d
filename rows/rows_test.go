package rows_test

import (
	"math"
	"slices"
	"testing"

	"quadrille/api"
	"quadrille/rows"
)

// made answers a matrix in which all is free.
func made(t *testing.T, rowCount, nodeCount int) *rows.Matrix {
	t.Helper()
	m, e := rows.New(rowCount, nodeCount)
	if e != api.OK || m == nil {
		t.Fatalf("New(%d, %d): error %d", rowCount, nodeCount, e)
	}
	return m
}

// drawn answers a matrix of those rows: a digit is a job's, a point is free.
func drawn(t *testing.T, lines ...string) *rows.Matrix {
	t.Helper()
	m := made(t, len(lines), len(lines[0]))
	for row, line := range lines {
		for _, job := range "123456789" {
			var nodes []int
			for node, c := range line {
				if c == job {
					nodes = append(nodes, node)
				}
			}
			if len(nodes) > 0 {
				answers(t, "Put", m.Put(uint32(job-'0'), row, nodes), api.OK)
			}
		}
	}
	return m
}

// looks fails the test unless the matrix is that of those rows.
func looks(t *testing.T, m *rows.Matrix, lines ...string) {
	t.Helper()
	if r, n := m.Size(); r != len(lines) || n != len(lines[0]) {
		t.Fatalf("Size: %d, %d; want %d, %d", r, n, len(lines), len(lines[0]))
	}
	for row, line := range lines {
		got := ""
		for node := range len(line) {
			got += string(".123456789"[m.At(row, node)])
		}
		if got != line {
			t.Fatalf("row %d: %s, want %s", row, got, line)
		}
	}
}

// answers fails the test unless the error is the one that is wanted.
func answers(t *testing.T, what string, got, want api.Errno) {
	t.Helper()
	if got != want {
		t.Fatalf("%s: error %d, want %d", what, got, want)
	}
}

// places fails the test unless the job is placed there.
func places(t *testing.T, m *rows.Matrix, job uint32, k, row int, nodes ...int) {
	t.Helper()
	r, l, e := m.Place(job, k)
	if e != api.OK || r != row || !slices.Equal(l, nodes) {
		t.Fatalf("Place(%d, %d): %d, %v, error %d; want %d, %v", job, k, r, l, e, row, nodes)
	}
	stands(t, m, job, row, nodes...)
}

// placesNot fails the test unless Place answers that error, and nothing beside it.
func placesNot(t *testing.T, m *rows.Matrix, job uint32, k int, want api.Errno) {
	t.Helper()
	if r, l, e := m.Place(job, k); e != want || r != 0 || len(l) > 0 {
		t.Fatalf("Place(%d, %d): %d, %v, error %d; want error %d", job, k, r, l, e, want)
	}
}

// stands fails the test unless the job stands there.
func stands(t *testing.T, m *rows.Matrix, job uint32, row int, nodes ...int) {
	t.Helper()
	if r, l, ok := m.Of(job); !ok || r != row || !slices.Equal(l, nodes) {
		t.Fatalf("Of(%d): %d, %v, %v; want %d, %v", job, r, l, ok, row, nodes)
	}
	for _, node := range nodes {
		if got := m.At(row, node); got != job {
			t.Fatalf("At(%d, %d): %d, want %d", row, node, got, job)
		}
	}
}

// standsNot fails the test unless the job doesn't stand.
func standsNot(t *testing.T, m *rows.Matrix, job uint32) {
	t.Helper()
	if r, l, ok := m.Of(job); ok || r != 0 || len(l) > 0 {
		t.Fatalf("Of(%d): %d, %v, %v; want false", job, r, l, ok)
	}
}

// lists fails the test unless the jobs are these.
func lists(t *testing.T, what string, got []uint32, want ...uint32) {
	t.Helper()
	if !slices.Equal(got, want) {
		t.Fatalf("%s: %v, want %v", what, got, want)
	}
}

// follows fails the test unless that row is the next.
func follows(t *testing.T, m *rows.Matrix, row, want int) {
	t.Helper()
	if got, ok := m.Next(row); !ok || got != want {
		t.Fatalf("Next(%d): %d, %v; want %d", row, got, ok, want)
	}
}

func TestExample(t *testing.T) {
	m := made(t, 2, 3)
	places(t, m, 1, 2, 0, 0, 1)
	places(t, m, 2, 2, 1, 0, 1)
	places(t, m, 3, 1, 0, 2)
	lists(t, "Fill(0)", m.Fill(0))
	lists(t, "Fill(1)", m.Fill(1), 3)
	follows(t, m, 0, 1)
	follows(t, m, 1, 0)
	looks(t, m, "113", "22.")
}

func TestNew(t *testing.T) {
	for r := -1; r <= api.MaxRows+1; r++ {
		for n := -1; n <= api.MaxNodes+1; n++ {
			m, e := rows.New(r, n)
			if r < 1 || r > api.MaxRows || n < 1 || n > api.MaxNodes {
				if m != nil || e != api.ErrArg {
					t.Fatalf("New(%d, %d): %v, error %d; want error %d", r, n, m, e, api.ErrArg)
				}
				continue
			}
			answers(t, "New", e, api.OK)
			isFree(t, m, r, n)
		}
	}
	for _, size := range []int{math.MinInt, math.MaxInt} {
		if m, e := rows.New(size, 1); m != nil || e != api.ErrArg {
			t.Fatalf("New(%d, 1): error %d", size, e)
		}
		if m, e := rows.New(1, size); m != nil || e != api.ErrArg {
			t.Fatalf("New(1, %d): error %d", size, e)
		}
	}
}

// isFree fails the test unless all of a matrix of that size is free, and all nodes are up.
func isFree(t *testing.T, m *rows.Matrix, rowCount, nodeCount int) {
	t.Helper()
	if r, n := m.Size(); r != rowCount || n != nodeCount {
		t.Fatalf("Size: %d, %d; want %d, %d", r, n, rowCount, nodeCount)
	}
	for row := range rowCount {
		if n := m.Free(row); n != nodeCount {
			t.Fatalf("Free(%d): %d, want %d", row, n, nodeCount)
		}
		lists(t, "Row", m.Row(row))
		lists(t, "Fill", m.Fill(row))
		if next, ok := m.Next(row); ok || next != 0 {
			t.Fatalf("Next(%d): %d, %v", row, next, ok)
		}
	}
	for node := range nodeCount {
		if !m.IsUp(node) {
			t.Fatalf("IsUp(%d): false", node)
		}
	}
	lists(t, "Jobs", m.Jobs())
}

func TestUp(t *testing.T) {
	m := drawn(t, "1.22", "....")
	for _, node := range []int{-1, 4, 15, 16, math.MinInt, math.MaxInt} {
		answers(t, "Up of no node", m.Up(node, true), api.ErrArg)
		answers(t, "Up of no node", m.Up(node, false), api.ErrArg)
		if m.IsUp(node) {
			t.Fatalf("IsUp(%d): true", node)
		}
	}
	for _, up := range []bool{true, false, false, true, true} {
		answers(t, "Up", m.Up(2, up), api.OK)
		for node := range 4 {
			if got := m.IsUp(node); got != (up || node != 2) {
				t.Fatalf("IsUp(%d): %v", node, got)
			}
		}
		looks(t, m, "1.22", "....")
		stands(t, m, 2, 0, 2, 3)
	}
}

// TestPlaceGoesByUpNodes: the least nodes that are up, of the first row with enough of them.
func TestPlaceGoesByUpNodes(t *testing.T) {
	m := drawn(t, "1..1.", ".....", ".....")
	answers(t, "Up", m.Up(1, false), api.OK)
	places(t, m, 2, 2, 0, 2, 4)
	places(t, m, 3, 3, 1, 0, 2, 3)
	places(t, m, 4, 1, 1, 4)
	placesNot(t, m, 5, 5, api.ErrFull)
	answers(t, "Up", m.Up(1, true), api.OK)
	places(t, m, 5, 5, 2, 0, 1, 2, 3, 4)
	places(t, m, 6, 1, 0, 1)
	places(t, m, 7, 1, 1, 1)
	placesNot(t, m, 8, 1, api.ErrFull)
	looks(t, m, "16212", "37334", "55555")
}

func TestPlaceTakesExactlyAsMany(t *testing.T) {
	for k := 1; k <= api.MaxNodes; k++ {
		m := made(t, 1, api.MaxNodes)
		var want []int
		for node := range k {
			want = append(want, node)
		}
		places(t, m, math.MaxUint32, k, 0, want...)
		if got := m.Free(0); got != api.MaxNodes-k {
			t.Fatalf("Free(0): %d, want %d", got, api.MaxNodes-k)
		}
	}
}

func TestPlaceErrors(t *testing.T) {
	m := drawn(t, "11.", "22.")
	for _, x := range []struct {
		job  uint32
		k    int
		want api.Errno
	}{
		{0, 1, api.ErrArg},
		{0, 9, api.ErrArg},
		{3, 0, api.ErrArg},
		{3, -1, api.ErrArg},
		{3, math.MinInt, api.ErrArg},
		{1, 0, api.ErrArg},
		{1, 1, api.ErrTwice},
		{2, 4, api.ErrTwice},
		{3, 4, api.ErrWide},
		{3, math.MaxInt, api.ErrWide},
		{3, 3, api.ErrFull},
		{3, 2, api.ErrFull},
	} {
		placesNot(t, m, x.job, x.k, x.want)
		looks(t, m, "11.", "22.")
	}
	places(t, m, 3, 1, 0, 2)
}

// TestWideIsByAllNodes: nodes that are down are nodes, too, and a job of as many finds no row.
func TestWideIsByAllNodes(t *testing.T) {
	m := made(t, 2, 3)
	answers(t, "Up", m.Up(0, false), api.OK)
	placesNot(t, m, 1, 3, api.ErrFull)
	placesNot(t, m, 1, 4, api.ErrWide)
	answers(t, "Up", m.Up(1, false), api.OK)
	answers(t, "Up", m.Up(2, false), api.OK)
	placesNot(t, m, 1, 1, api.ErrFull)
}

func TestPut(t *testing.T) {
	m := made(t, 3, 4)
	answers(t, "Put", m.Put(5, 1, []int{1, 3}), api.OK)
	answers(t, "Put", m.Put(4, 1, []int{0, 2}), api.OK)
	answers(t, "Put", m.Put(math.MaxUint32, 2, []int{3}), api.OK)
	stands(t, m, math.MaxUint32, 2, 3)
	answers(t, "Remove", m.Remove(math.MaxUint32), api.OK)
	answers(t, "Put of all nodes", m.Put(6, 2, []int{0, 1, 2, 3}), api.OK)
	looks(t, m, "....", "4545", "6666")
}

// TestPutAtNodesThatAreDown: only Place asks whether they are up.
func TestPutAtNodesThatAreDown(t *testing.T) {
	m := made(t, 1, 3)
	answers(t, "Up", m.Up(1, false), api.OK)
	answers(t, "Put", m.Put(1, 0, []int{1, 2}), api.OK)
	stands(t, m, 1, 0, 1, 2)
	if m.IsUp(1) || m.Free(0) != 1 {
		t.Fatalf("IsUp(1): %v, Free(0): %d", m.IsUp(1), m.Free(0))
	}
}

func TestPutErrors(t *testing.T) {
	for _, x := range []struct {
		what  string
		job   uint32
		row   int
		nodes []int
		want  api.Errno
	}{
		{"no job", 0, 1, []int{0}, api.ErrArg},
		{"no row", 3, -1, []int{0}, api.ErrArg},
		{"no row", 3, 2, []int{0}, api.ErrArg},
		{"no row", 3, math.MinInt, []int{0}, api.ErrArg},
		{"no row", 3, math.MaxInt, []int{0}, api.ErrArg},
		{"no nodes", 3, 1, nil, api.ErrArg},
		{"no nodes", 3, 1, []int{}, api.ErrArg},
		{"no such node", 3, 1, []int{-1}, api.ErrArg},
		{"no such node", 3, 1, []int{-1, 0}, api.ErrArg},
		{"no such node", 3, 1, []int{3}, api.ErrArg},
		{"no such node", 3, 1, []int{0, 2, 3}, api.ErrArg},
		{"no such node", 3, 1, []int{math.MaxInt}, api.ErrArg},
		{"no such node", 3, 1, []int{math.MinInt}, api.ErrArg},
		{"falling nodes", 3, 1, []int{2, 0}, api.ErrArg},
		{"falling nodes", 3, 1, []int{0, 2, 1}, api.ErrArg},
		{"one node twice", 3, 1, []int{2, 2}, api.ErrArg},
		{"a job that stands, no row", 1, 2, []int{0}, api.ErrArg},
		{"a job that stands, no such node", 1, 1, []int{3}, api.ErrArg},
		{"taken nodes that fall", 3, 0, []int{1, 0}, api.ErrArg},
		{"a job that stands", 1, 1, []int{2}, api.ErrTwice},
		{"a job that stands there", 1, 0, []int{0, 1}, api.ErrTwice},
		{"a job that stands, taken nodes", 1, 1, []int{0}, api.ErrTwice},
		{"a taken node", 3, 0, []int{0}, api.ErrBusy},
		{"a taken node", 3, 0, []int{1, 2}, api.ErrBusy},
		{"a taken node behind a free one", 3, 1, []int{0, 1, 2}, api.ErrBusy},
	} {
		m := drawn(t, "11.", ".2.")
		answers(t, x.what, m.Put(x.job, x.row, x.nodes), x.want)
		looks(t, m, "11.", ".2.")
		standsNot(t, m, 3)
		lists(t, "Jobs", m.Jobs(), 1, 2)
	}
}

func TestRemove(t *testing.T) {
	m := drawn(t, "1213", "4..4")
	for _, none := range []uint32{0, 5, math.MaxUint32} {
		answers(t, "Remove of none", m.Remove(none), api.ErrNone)
	}
	answers(t, "Remove", m.Remove(1), api.OK)
	looks(t, m, ".2.3", "4..4")
	standsNot(t, m, 1)
	answers(t, "Remove again", m.Remove(1), api.ErrNone)
	answers(t, "Up", m.Up(3, false), api.OK)
	answers(t, "Remove at a node that is down", m.Remove(4), api.OK)
	answers(t, "Remove at a node that is down", m.Remove(3), api.OK)
	looks(t, m, ".2..", "....")
	if m.IsUp(3) {
		t.Fatal("the node is up")
	}
	places(t, m, 4, 2, 0, 0, 2)
}

func TestOf(t *testing.T) {
	m := drawn(t, "1.21", "..3.")
	stands(t, m, 1, 0, 0, 3)
	stands(t, m, 2, 0, 2)
	stands(t, m, 3, 1, 2)
	standsNot(t, m, 0)
	standsNot(t, m, 4)
	answers(t, "Up", m.Up(3, false), api.OK)
	stands(t, m, 1, 0, 0, 3)
}

func TestAt(t *testing.T) {
	m := drawn(t, "12", "33")
	for _, x := range [][2]int{
		{-1, 0}, {2, 0}, {7, 0}, {8, 0}, {0, -1}, {0, 2}, {0, 15}, {0, 16},
		{math.MinInt, 1}, {math.MaxInt, 1}, {1, math.MinInt}, {1, math.MaxInt},
	} {
		if got := m.At(x[0], x[1]); got != 0 {
			t.Fatalf("At(%d, %d): %d", x[0], x[1], got)
		}
	}
	looks(t, m, "12", "33")
}

func TestRow(t *testing.T) {
	m := drawn(t, ".9.2929", "8141813", ".......")
	lists(t, "Row(0)", m.Row(0), 9, 2)
	lists(t, "Row(1)", m.Row(1), 8, 1, 4, 3)
	lists(t, "Row(2)", m.Row(2))
	for _, none := range []int{-1, 3, 7, 8, math.MinInt, math.MaxInt} {
		lists(t, "Row of none", m.Row(none))
		lists(t, "Fill of none", m.Fill(none))
		if n := m.Free(none); n != 0 {
			t.Fatalf("Free(%d): %d", none, n)
		}
	}
	answers(t, "Up", m.Up(1, false), api.OK)
	lists(t, "Row(0)", m.Row(0), 9, 2)
}
