package rows_test

import (
	"math"
	"slices"
	"testing"

	"quadrille/api"
	"quadrille/rows"
)

func TestFill(t *testing.T) {
	for _, x := range []struct {
		lines []string
		row   int
		want  []uint32
	}{
		{[]string{"1...", "2..3", "4.4."}, 0, []uint32{3}},
		// The order is that of the rows, and within one that of the least nodes; not that of the numbers.
		{[]string{"....", "9292", "1111"}, 0, []uint32{9, 2}},
		{[]string{"1111", "9292", "...."}, 2, []uint32{1}},
		{[]string{"1...", "....", "..2."}, 1, []uint32{1, 2}},
		// Whose nodes one ahead of it has taken is passed over, and those behind it aren't.
		{[]string{"...", "1..", "22.", ".3."}, 0, []uint32{1, 3}},
		{[]string{"....", "11..", ".22.", "..33"}, 0, []uint32{1, 3}},
		// Who isn't told takes no nodes: 2 isn't, as 4 has one of its nodes, and 3 is, at the other.
		{[]string{"4...", "22..", ".3.."}, 0, []uint32{3}},
		// A row that is full goes with nobody, one that is free with all that it can.
		{[]string{"11", "22"}, 0, nil},
		{[]string{"11", "22"}, 1, nil},
		{[]string{"..", ".."}, 0, nil},
		{[]string{"1.", ".."}, 0, nil},
		{[]string{"1.", ".."}, 1, []uint32{1}},
	} {
		m := drawn(t, x.lines...)
		lists(t, "Fill", m.Fill(x.row), x.want...)
		looks(t, m, x.lines...)
	}
}

// TestFillAsksForNoPower: a job at a node that is down fills a row, too.
func TestFillAsksForNoPower(t *testing.T) {
	m := drawn(t, "1..", "2.3")
	answers(t, "Up", m.Up(2, false), api.OK)
	lists(t, "Fill(0)", m.Fill(0), 3)
	answers(t, "Up", m.Up(0, false), api.OK)
	lists(t, "Fill(0)", m.Fill(0), 3)
}

func TestNext(t *testing.T) {
	m := drawn(t, "...", ".1.", "...", "2..", "...")
	for row, want := range []int{1, 3, 3, 1, 1} {
		follows(t, m, row, want)
	}
	for _, none := range []int{-1, -2, 5, 6, 8, math.MinInt, math.MaxInt} {
		follows(t, m, none, 1)
	}
	answers(t, "Remove", m.Remove(1), api.OK)
	for row := range 5 {
		follows(t, m, row, 3)
	}
	answers(t, "Put", m.Put(5, 0, []int{2}), api.OK)
	answers(t, "Put", m.Put(6, 4, []int{2}), api.OK)
	for row, want := range []int{3, 3, 3, 4, 0} {
		follows(t, m, row, want)
	}
	for _, none := range []int{-1, 5, math.MinInt, math.MaxInt} {
		follows(t, m, none, 0)
	}
	answers(t, "Up", m.Up(2, false), api.OK)
	follows(t, m, 4, 0)
}

func TestNextOfNobody(t *testing.T) {
	m := made(t, api.MaxRows, 1)
	for row := -2; row < api.MaxRows+2; row++ {
		if next, ok := m.Next(row); ok || next != 0 {
			t.Fatalf("Next(%d): %d, %v", row, next, ok)
		}
	}
	one := drawn(t, "1")
	follows(t, one, 0, 0)
	follows(t, one, 1, 0)
	follows(t, one, -1, 0)
}

func TestJobs(t *testing.T) {
	m := drawn(t, "9.4", ".7.", "82.")
	lists(t, "Jobs", m.Jobs(), 2, 4, 7, 8, 9)
	answers(t, "Put", m.Put(math.MaxUint32, 1, []int{0}), api.OK)
	answers(t, "Put", m.Put(1<<31, 1, []int{2}), api.OK)
	lists(t, "Jobs", m.Jobs(), 2, 4, 7, 8, 9, 1<<31, math.MaxUint32)
	answers(t, "Up", m.Up(0, false), api.OK)
	lists(t, "Jobs", m.Jobs(), 2, 4, 7, 8, 9, 1<<31, math.MaxUint32)
}

// TestFull: as many jobs as there are cells.
func TestFull(t *testing.T) {
	m := made(t, api.MaxRows, api.MaxNodes)
	var want []uint32
	for row := range api.MaxRows {
		for node := range api.MaxNodes {
			job := uint32(len(want) + 1)
			places(t, m, job, 1, row, node)
			want = append(want, job)
		}
	}
	lists(t, "Jobs", m.Jobs(), want...)
	placesNot(t, m, 1000, 1, api.ErrFull)
	for row := range api.MaxRows {
		lists(t, "Row", m.Row(row), want[row*api.MaxNodes:(row+1)*api.MaxNodes]...)
		lists(t, "Fill", m.Fill(row))
	}
}

func TestFree(t *testing.T) {
	m := drawn(t, "1..1", "....", "2222")
	for _, x := range []struct {
		node int
		up   bool
		want []int
	}{
		{0, true, []int{2, 4, 0}},
		{0, false, []int{2, 3, 0}},
		{1, false, []int{1, 2, 0}},
		{0, true, []int{1, 3, 0}},
		{3, false, []int{1, 2, 0}},
		{2, false, []int{0, 1, 0}},
	} {
		answers(t, "Up", m.Up(x.node, x.up), api.OK)
		for row, want := range x.want {
			if got := m.Free(row); got != want {
				t.Fatalf("Free(%d): %d, want %d", row, got, want)
			}
		}
	}
}

func TestCopyIsApart(t *testing.T) {
	m := drawn(t, "11.", ".2.")
	answers(t, "Up", m.Up(2, false), api.OK)
	c := m.Copy()
	looks(t, c, "11.", ".2.")
	if c.IsUp(2) || !c.IsUp(0) || !c.IsUp(1) {
		t.Fatal("other nodes are up in the copy")
	}
	answers(t, "Up", c.Up(2, true), api.OK)
	answers(t, "Up", c.Up(0, false), api.OK)
	answers(t, "Remove", c.Remove(1), api.OK)
	places(t, c, 3, 1, 0, 1)
	looks(t, m, "11.", ".2.")
	if m.IsUp(2) || !m.IsUp(0) {
		t.Fatal("the copy's nodes are those of the first")
	}
	answers(t, "Remove", m.Remove(2), api.OK)
	answers(t, "Up", m.Up(1, false), api.OK)
	looks(t, c, ".3.", ".2.")
	if !c.IsUp(1) {
		t.Fatal("the first one's nodes are those of the copy")
	}
}

// TestListsAreApart: who writes over what was handed in or answered, spare room too, does nothing to the matrix, nor to another answer.
func TestListsAreApart(t *testing.T) {
	m := made(t, 3, 4)
	nodes := []int{0, 1, 3, 2}[:3]
	answers(t, "Put", m.Put(1, 0, nodes), api.OK)
	if !slices.Equal(nodes[:4], []int{0, 1, 3, 2}) {
		t.Fatalf("Put made %v of the nodes", nodes[:4])
	}
	scribble(nodes)
	_, placed, _ := m.Place(2, 2)
	scribble(placed)
	for range 2 {
		stands(t, m, 1, 0, 0, 1, 3)
		stands(t, m, 2, 1, 0, 1)
		looks(t, m, "11.1", "22..", "....")
		_, of, _ := m.Of(1)
		scribble(of)
		for _, list := range []func() []uint32{
			func() []uint32 { return m.Row(0) },
			func() []uint32 { return m.Fill(2) },
			m.Jobs,
		} {
			l, other := list(), list()
			scribble(l)
			if !slices.Equal(other, list()) {
				t.Fatalf("another list became %v", other)
			}
		}
	}
}

// scribble writes over all of a list, its spare room too.
func scribble[T int | uint32](l []T) {
	l = l[:cap(l)]
	for i := range l {
		l[i] = 77
	}
}

func TestNil(t *testing.T) {
	var m *rows.Matrix
	answers(t, "Up", m.Up(0, true), api.ErrNone)
	answers(t, "Up of no node", m.Up(-1, true), api.ErrNone)
	placesNot(t, m, 1, 1, api.ErrNone)
	placesNot(t, m, 0, 0, api.ErrNone)
	answers(t, "Put", m.Put(1, 0, []int{0}), api.ErrNone)
	answers(t, "Put", m.Put(0, -1, nil), api.ErrNone)
	answers(t, "Remove", m.Remove(1), api.ErrNone)
	answers(t, "Remove", m.Remove(0), api.ErrNone)
	standsNot(t, m, 0)
	standsNot(t, m, 1)
	lists(t, "Row", m.Row(0))
	lists(t, "Fill", m.Fill(0))
	lists(t, "Jobs", m.Jobs())
	for _, row := range []int{-1, 0, 1} {
		if next, ok := m.Next(row); ok || next != 0 {
			t.Fatalf("Next: %d, %v", next, ok)
		}
	}
	if r, n := m.Size(); r != 0 || n != 0 {
		t.Fatalf("Size: %d, %d", r, n)
	}
	if m.IsUp(0) || m.At(0, 0) != 0 || m.Free(0) != 0 || m.Copy() != nil {
		t.Fatal("a nil matrix tells something")
	}
}
