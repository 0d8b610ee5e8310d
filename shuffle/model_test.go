package shuffle_test

import (
	"math/rand"
	"slices"
	"testing"

	"quadrille/api"
	"quadrille/rows"
	"quadrille/shuffle"
)

// grid is a matrix as its cells.
type grid [][]uint32

// gridOf answers the cells of a matrix.
func gridOf(m *rows.Matrix) grid {
	rowCount, nodeCount := m.Size()
	g := make(grid, rowCount)
	for row := range g {
		for node := range nodeCount {
			g[row] = append(g[row], m.At(row, node))
		}
	}
	return g
}

// order answers the jobs of a row, by their least nodes.
func (g grid) order(row int) []uint32 {
	var l []uint32
	for _, job := range g[row] {
		if job != 0 && !slices.Contains(l, job) {
			l = append(l, job)
		}
	}
	return l
}

// clash tells whether any of the jobs of a row stands at a node at which somebody stands in the other one.
func (g grid) clash(from, to int, jobs []uint32) bool {
	for node, job := range g[from] {
		if slices.Contains(jobs, job) && g[to][node] != 0 {
			return true
		}
	}
	return false
}

// carry has the jobs of a row stand in another one.
func (g grid) carry(from, to int, jobs []uint32) []shuffle.Move {
	for node, job := range g[from] {
		if slices.Contains(jobs, job) {
			g[from][node], g[to][node] = 0, job
		}
	}
	var moves []shuffle.Move
	for _, job := range jobs {
		moves = append(moves, move(job, from, to))
	}
	return moves
}

func (g grid) unify() []shuffle.Move {
	var moves []shuffle.Move
	for i := range g {
		for j := range g {
			if j > i && !g.clash(j, i, g.order(j)) {
				moves = append(moves, g.carry(j, i, g.order(j))...)
			}
		}
	}
	return moves
}

func (g grid) repack() []shuffle.Move {
	var moves []shuffle.Move
	for j := range g {
		for _, job := range g.order(j) {
			for i := range j {
				if l := []uint32{job}; !g.clash(j, i, l) {
					moves = append(moves, g.carry(j, i, l)...)
					break
				}
			}
		}
	}
	return moves
}

// scattered answers a matrix with jobs here and there, and some nodes down.
func scattered(r *rand.Rand) *rows.Matrix {
	m, _ := rows.New(1+r.Intn(api.MaxRows), 1+r.Intn(api.MaxNodes))
	rowCount, nodeCount := m.Size()
	rare := 2 + r.Intn(12)
	for range r.Intn(40) {
		var nodes []int
		for node := range nodeCount {
			if r.Intn(rare) == 0 {
				nodes = append(nodes, node)
			}
		}
		m.Put(uint32(1+r.Intn(1000)), r.Intn(rowCount), nodes)
	}
	for node := range nodeCount {
		m.Up(node, r.Intn(4) > 0)
	}
	return m
}

// TestAgainstModel holds what comes of many matrices against plain cells.
func TestAgainstModel(t *testing.T) {
	for seed := range int64(4000) {
		m := scattered(rand.New(rand.NewSource(seed)))
		before := gridOf(m)
		unified, repacked := gridOf(m), gridOf(m)
		agrees(t, "Unify", m, shuffle.Unify, unified, unified.unify())
		agrees(t, "Repack", m, shuffle.Repack, repacked, repacked.repack())
		if !alike(gridOf(m), before) {
			t.Fatalf("seed %d: what was handed in has changed", seed)
		}
	}
}

// agrees fails the test unless put answers those cells and moves, and each job has the nodes that it had.
func agrees(t *testing.T, what string, m *rows.Matrix, put func(*rows.Matrix) (*rows.Matrix, []shuffle.Move), want grid, wanted []shuffle.Move) {
	t.Helper()
	after, moves := put(m)
	if !alike(gridOf(after), want) {
		t.Fatalf("%s of %v: %v, want %v", what, gridOf(m), gridOf(after), want)
	}
	moved(t, what, moves, wanted...)
	if !slices.Equal(after.Jobs(), m.Jobs()) {
		t.Fatalf("%s: jobs %v, were %v", what, after.Jobs(), m.Jobs())
	}
	for _, job := range m.Jobs() {
		_, had, _ := m.Of(job)
		if _, has, ok := after.Of(job); !ok || !slices.Equal(has, had) {
			t.Fatalf("%s: job %d stands at %v, stood at %v", what, job, has, had)
		}
	}
	_, nodeCount := m.Size()
	for node := range nodeCount {
		if after.IsUp(node) != m.IsUp(node) {
			t.Fatalf("%s: node %d is up: %v", what, node, after.IsUp(node))
		}
	}
	if shuffle.Used(after) > shuffle.Used(m) || shuffle.Used(after) != used(want) {
		t.Fatalf("%s: Used %d, want %d", what, shuffle.Used(after), used(want))
	}
}

func used(g grid) int {
	n := 0
	for row := range g {
		if len(g.order(row)) > 0 {
			n++
		}
	}
	return n
}

func alike(a, b grid) bool {
	return slices.EqualFunc(a, b, slices.Equal[[]uint32])
}
