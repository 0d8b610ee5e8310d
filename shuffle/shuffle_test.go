package shuffle_test

import (
	"slices"
	"testing"

	"quadrille/api"
	"quadrille/rows"
	"quadrille/shuffle"
)

// drawn answers a matrix of those rows: a digit is a job's, a point is free.
func drawn(t *testing.T, lines ...string) *rows.Matrix {
	t.Helper()
	m, e := rows.New(len(lines), len(lines[0]))
	if e != api.OK {
		t.Fatalf("New: error %d", e)
	}
	for row, line := range lines {
		for _, job := range "123456789" {
			var nodes []int
			for node, c := range line {
				if c == job {
					nodes = append(nodes, node)
				}
			}
			if len(nodes) == 0 {
				continue
			}
			if e := m.Put(uint32(job-'0'), row, nodes); e != api.OK {
				t.Fatalf("Put of %c: error %d", job, e)
			}
		}
	}
	return m
}

// looks fails the test unless the matrix is that of those rows.
func looks(t *testing.T, what string, m *rows.Matrix, lines ...string) {
	t.Helper()
	if r, n := m.Size(); r != len(lines) || n != len(lines[0]) {
		t.Fatalf("%s: size %d, %d; want %d, %d", what, r, n, len(lines), len(lines[0]))
	}
	for row, line := range lines {
		got := ""
		for node := range len(line) {
			got += string(".123456789"[m.At(row, node)])
		}
		if got != line {
			t.Fatalf("%s: row %d: %s, want %s", what, row, got, line)
		}
	}
}

// moved fails the test unless the moves are these.
func moved(t *testing.T, what string, got []shuffle.Move, want ...shuffle.Move) {
	t.Helper()
	if !slices.Equal(got, want) {
		t.Fatalf("%s: moves %v, want %v", what, got, want)
	}
}

// move answers that the job went from one row to another.
func move(job uint32, from, to int) shuffle.Move {
	return shuffle.Move{Job: job, From: from, To: to}
}

// picture is a matrix, and what is to come of it.
type picture struct {
	name   string
	before []string
	after  []string
	moves  []shuffle.Move
}

// shows fails the test unless put does to each picture's matrix what is to come of it, and leaves the one that it is handed.
func shows(t *testing.T, put func(*rows.Matrix) (*rows.Matrix, []shuffle.Move), pictures ...picture) {
	t.Helper()
	for _, p := range pictures {
		m := drawn(t, p.before...)
		after, moves := put(m)
		looks(t, p.name, after, p.after...)
		moved(t, p.name, moves, p.moves...)
		looks(t, p.name+", what was handed in", m, p.before...)
	}
}

func TestExample(t *testing.T) {
	p := picture{"the example", []string{"11.", "..2", "3.."}, []string{"112", "3..", "..."}, []shuffle.Move{move(2, 1, 0), move(3, 2, 1)}}
	shows(t, shuffle.Unify, p)
	shows(t, shuffle.Repack, p)
}

func TestUnify(t *testing.T) {
	shows(t, shuffle.Unify,
		picture{"nobody", []string{"...", "...", "..."}, []string{"...", "...", "..."}, nil},
		picture{"one row", []string{"1.2"}, []string{"1.2"}, nil},
		picture{"one cell", []string{"1"}, []string{"1"}, nil},
		picture{"all in one row", []string{"1...", ".2..", "..3.", "...4"}, []string{"1234", "....", "....", "...."},
			[]shuffle.Move{move(2, 1, 0), move(3, 2, 0), move(4, 3, 0)}},
		picture{"no row goes with another", []string{"11", "22", "33"}, []string{"11", "22", "33"}, nil},
		picture{"rows that nobody is in are filled", []string{"..", "..", "1.", "2."}, []string{"1.", "2.", "..", ".."},
			[]shuffle.Move{move(1, 2, 0), move(2, 3, 1)}},
		picture{"into a row that was left", []string{"1..", ".2.", "3..", ".4."}, []string{"12.", "34.", "...", "..."},
			[]shuffle.Move{move(2, 1, 0), move(3, 2, 1), move(4, 3, 1)}},
		picture{"a later row goes where the one ahead of it doesn't", []string{"11..", "2.2.", "..33"}, []string{"1133", "2.2.", "...."},
			[]shuffle.Move{move(3, 2, 0)}},
		picture{"who came first takes the room", []string{"1...", ".22.", "..33", "...4"}, []string{"1224", "..33", "....", "...."},
			[]shuffle.Move{move(2, 1, 0), move(4, 3, 0), move(3, 2, 1)}},
	)
}

// TestUnifyWholeRows: of a row all go, or nobody.
func TestUnifyWholeRows(t *testing.T) {
	shows(t, shuffle.Unify,
		picture{"the first is in the way", []string{"1...", "2.3.", "..4."}, []string{"1.4.", "2.3.", "...."}, []shuffle.Move{move(4, 2, 0)}},
		picture{"the last is in the way", []string{"...1", "2.33"}, []string{"...1", "2.33"}, nil},
		picture{"one node of several is in the way", []string{".1..", "222."}, []string{".1..", "222."}, nil},
		picture{"several at once", []string{"1..1", ".23.", "4..4"}, []string{"1231", "4..4", "...."},
			[]shuffle.Move{move(2, 1, 0), move(3, 1, 0), move(4, 2, 1)}},
	)
}

// TestMovesByLeastNodes: of one row they go in the order of Row, not by their numbers.
func TestMovesByLeastNodes(t *testing.T) {
	want := []shuffle.Move{move(7, 1, 0), move(5, 1, 0), move(9, 1, 0), move(3, 1, 0)}
	p := picture{"by least nodes", []string{".1......", "7.5.9753"}, []string{"715.9753", "........"}, want}
	shows(t, shuffle.Unify, p)
	shows(t, shuffle.Repack, p)
}

func TestRepack(t *testing.T) {
	shows(t, shuffle.Repack,
		picture{"nobody", []string{"...", "...", "..."}, []string{"...", "...", "..."}, nil},
		picture{"one row", []string{"1.2"}, []string{"1.2"}, nil},
		picture{"one goes, one stays", []string{"1..", "23."}, []string{"13.", "2.."}, []shuffle.Move{move(3, 1, 0)}},
		picture{"one stays, one goes", []string{"..1", "23."}, []string{"231", "..."}, []shuffle.Move{move(2, 1, 0), move(3, 1, 0)}},
		picture{"the first row with room", []string{"1..", "...", "...", "2.3"}, []string{"1.3", "2..", "...", "..."},
			[]shuffle.Move{move(2, 3, 1), move(3, 3, 0)}},
		picture{"into what was left", []string{"11.", ".22", "3.4"}, []string{"114", "322", "..."},
			[]shuffle.Move{move(3, 2, 1), move(4, 2, 0)}},
		picture{"behind one that went", []string{"1...", "2.3.", "..4."}, []string{"1.3.", "2.4.", "...."},
			[]shuffle.Move{move(3, 1, 0), move(4, 2, 1)}},
		picture{"no job is torn", []string{".1..", "2.2.", "333."}, []string{"212.", "333.", "...."},
			[]shuffle.Move{move(2, 1, 0), move(3, 2, 1)}},
		picture{"no row ahead has room for all of it", []string{"1...", "2.22", ".33.", "4444"}, []string{"133.", "2.22", "4444", "...."},
			[]shuffle.Move{move(3, 2, 0), move(4, 3, 2)}},
		picture{"nobody goes back", []string{"1111", "....", "2222"}, []string{"1111", "2222", "...."}, []shuffle.Move{move(2, 2, 1)}},
	)
}

// TestRepackIsNotUnify: rows that don't go whole go by parts, and a job may go past the row that another one goes to.
func TestRepackIsNotUnify(t *testing.T) {
	before := []string{"12..", "3.4.", ".5.6"}
	shows(t, shuffle.Unify, picture{"unified", before, []string{"12..", "3546", "...."}, []shuffle.Move{move(5, 2, 1), move(6, 2, 1)}})
	shows(t, shuffle.Repack, picture{"repacked", before, []string{"1246", "35..", "...."}, []shuffle.Move{move(4, 1, 0), move(5, 2, 1), move(6, 2, 0)}})
}

// TestAtTheLimits has as many rows and nodes as there may be.
func TestAtTheLimits(t *testing.T) {
	for _, put := range both() {
		m, _ := rows.New(api.MaxRows, api.MaxNodes)
		for row := range api.MaxRows {
			m.Put(uint32(1000-row), row, []int{row, api.MaxNodes - 1 - row})
		}
		after, moves := put(m)
		if len(moves) != api.MaxRows-1 || shuffle.Used(after) != 1 || after.Free(0) != 0 || shuffle.Used(m) != api.MaxRows {
			t.Fatalf("moves %v", moves)
		}
		for i, x := range moves {
			if x != move(uint32(999-i), i+1, 0) {
				t.Fatalf("moves %v", moves)
			}
		}
	}
}

// TestFullMatrix: where no cell is free nobody goes.
func TestFullMatrix(t *testing.T) {
	for _, put := range both() {
		m, _ := rows.New(api.MaxRows, api.MaxNodes)
		for job := range uint32(api.MaxRows * api.MaxNodes) {
			m.Place(job+1, 1)
		}
		after, moves := put(m)
		if len(moves) != 0 || !slices.Equal(after.Jobs(), m.Jobs()) || shuffle.Used(after) != api.MaxRows {
			t.Fatalf("moves %v", moves)
		}
	}
}

// both answers both ways to put rows together.
func both() []func(*rows.Matrix) (*rows.Matrix, []shuffle.Move) {
	return []func(*rows.Matrix) (*rows.Matrix, []shuffle.Move){shuffle.Unify, shuffle.Repack}
}

// TestDownNodes: who stands at a node that is down moves as all others do, and it stays down.
func TestDownNodes(t *testing.T) {
	for _, put := range both() {
		m := drawn(t, "11..", "..2.", "3...")
		m.Up(0, false)
		m.Up(2, false)
		after, moves := put(m)
		looks(t, "with nodes down", after, "112.", "3...", "....")
		moved(t, "with nodes down", moves, move(2, 1, 0), move(3, 2, 1))
		for node, up := range []bool{false, true, false, true} {
			if after.IsUp(node) != up || m.IsUp(node) != up {
				t.Fatalf("node %d is up: %v, and in what was handed in: %v", node, after.IsUp(node), m.IsUp(node))
			}
		}
	}
}

// TestApart: what is done to the answer isn't done to what was handed in, nor the other way round.
func TestApart(t *testing.T) {
	for _, put := range both() {
		m := drawn(t, "1..", "...")
		after, _ := put(m)
		after.Put(2, 0, []int{1})
		after.Up(2, false)
		looks(t, "handed in", m, "1..", "...")
		m.Put(3, 1, []int{0})
		looks(t, "answered", after, "12.", "...")
		if !m.IsUp(2) {
			t.Fatal("a node of what was handed in went down")
		}
	}
}

// TestMovesAreApart: who writes over an answer's moves, their spare room too, changes no other answer.
func TestMovesAreApart(t *testing.T) {
	for _, put := range both() {
		m := drawn(t, "1...", ".2..", "..3.", "4...")
		_, other := put(m)
		want := slices.Clone(other)
		_, l := put(m)
		l = l[:cap(l)]
		for i := range l {
			l[i] = move(77, 77, 77)
		}
		moved(t, "another answer", other, want...)
		_, again := put(m)
		moved(t, "asked again", again, want...)
	}
}

func TestUsed(t *testing.T) {
	for want, lines := range [][]string{
		{"..", "..", ".."},
		{"..", ".1", ".."},
		{"12", "..", ".3"},
		{"1.", ".2", "33"},
	} {
		m := drawn(t, lines...)
		if got := shuffle.Used(m); got != want {
			t.Errorf("Used of %v: %d, want %d", lines, got, want)
		}
		looks(t, "behind Used", m, lines...)
		m.Up(0, false)
		m.Up(1, false)
		if got := shuffle.Used(m); got != want {
			t.Errorf("Used of %v, all nodes down: %d, want %d", lines, got, want)
		}
	}
}

func TestNil(t *testing.T) {
	for _, put := range both() {
		if m, moves := put(nil); m != nil || len(moves) != 0 {
			t.Fatalf("of nil: %v, %v", m, moves)
		}
	}
	if n := shuffle.Used(nil); n != 0 {
		t.Fatalf("Used of nil: %d", n)
	}
}
