package victim_test

import (
	"math/rand"
	"slices"
	"testing"

	"quadrille/api"
	"quadrille/rows"
	"quadrille/victim"
)

// tierOf answers what l says of a job first; false: nothing.
func tierOf(l []victim.Cand, job uint32) (byte, bool) {
	for _, c := range l {
		if c.Job == job {
			return c.Tier, true
		}
	}
	return 0, false
}

// room answers how many cells of a row are free at nodes that are up, once these have gone.
func room(m *rows.Matrix, row int, gone []uint32) int {
	_, nodeCount := m.Size()
	n := 0
	for node := range nodeCount {
		if job := m.At(row, node); m.IsUp(node) && (job == 0 || slices.Contains(gone, job)) {
			n++
		}
	}
	return n
}

// naive is Of: who goes is taken one by one, tier by tier, from the greatest number down.
func naive(m *rows.Matrix, row int, l []victim.Cand, tier byte, k int) ([]uint32, bool) {
	rowCount, _ := m.Size()
	if k < 1 || row < 0 || row >= rowCount {
		return nil, false
	}
	var gone []uint32
	for now := range int(tier) {
		for job := uint32(40); job > 0; job-- {
			at, _, stands := m.Of(job)
			if room(m, row, gone) >= k {
				return gone, true
			}
			if told, ok := tierOf(l, job); ok && int(told) == now && stands && at == row {
				gone = append(gone, job)
			}
		}
	}
	if room(m, row, gone) < k {
		return nil, false
	}
	return gone, true
}

// better tells whether who goes here is to go rather than who goes there.
func better(l []victim.Cand, here, there []uint32) bool {
	if len(here) != len(there) {
		return len(here) < len(there)
	}
	greatest := [2]int{-1, -1}
	for i, jobs := range [][]uint32{here, there} {
		for _, job := range jobs {
			tier, _ := tierOf(l, job)
			greatest[i] = max(greatest[i], int(tier))
		}
	}
	return greatest[0] < greatest[1]
}

// scattered answers a matrix with jobs up to 40 here and there, and some nodes down.
func scattered(r *rand.Rand) *rows.Matrix {
	m, _ := rows.New(1+r.Intn(api.MaxRows), 1+r.Intn(api.MaxNodes))
	rowCount, nodeCount := m.Size()
	rare := 2 + r.Intn(6)
	for range r.Intn(60) {
		var nodes []int
		for node := range nodeCount {
			if r.Intn(rare) == 0 {
				nodes = append(nodes, node)
			}
		}
		m.Put(uint32(1+r.Intn(40)), r.Intn(rowCount), nodes)
	}
	for node := range nodeCount {
		m.Up(node, r.Intn(4) > 0)
	}
	return m
}

// some answers candidates, with some jobs more than once, and some that don't stand.
func some(r *rand.Rand) []victim.Cand {
	var l []victim.Cand
	few := 1 + r.Intn(6)
	for range r.Intn(100) {
		l = append(l, victim.Cand{Job: uint32(r.Intn(42)), Tier: byte(r.Intn(few))})
	}
	return l
}

// TestAgainstModel holds what is answered of many matrices against plain lists.
func TestAgainstModel(t *testing.T) {
	for seed := range int64(6000) {
		r := rand.New(rand.NewSource(seed))
		m, l := scattered(r), some(r)
		rowCount, nodeCount := m.Size()
		tier, k := byte(r.Intn(7)), r.Intn(nodeCount+2)
		var best []uint32
		at, found := 0, false
		for row := -1; row <= rowCount; row++ {
			want, ok := naive(m, row, l, tier, k)
			if ok {
				goes(t, m, row, l, tier, k, want...)
			} else {
				stays(t, m, row, l, tier, k)
			}
			if ok && (!found || better(l, want, best)) {
				best, at, found = want, row, true
			}
		}
		if found {
			chosen(t, m, l, tier, k, at, best...)
		} else {
			noneChosen(t, m, l, tier, k)
		}
		if t.Failed() {
			t.Fatalf("seed %d", seed)
		}
	}
}
