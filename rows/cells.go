package rows

import (
	"iter"

	"quadrille/api"
)

// line is the cells of a row, by their nodes: each a job's, or 0.
type line [api.MaxNodes]uint32

// goes tells whether all the nodes are free in it.
func (l *line) goes(nodes []int) bool {
	for _, node := range nodes {
		if l[node] != 0 {
			return false
		}
	}
	return true
}

// set has the cells at the nodes be the job's.
func (l *line) set(nodes []int, job uint32) {
	for _, node := range nodes {
		l[node] = job
	}
}

// hasRow tells whether there is such a row.
func (m *Matrix) hasRow(row int) bool {
	return m != nil && row >= 0 && row < m.rows
}

// hasNode tells whether there is such a node.
func (m *Matrix) hasNode(node int) bool {
	return m != nil && node >= 0 && node < m.nodes
}

// hasRising tells whether there are such nodes, one at least, and each above the one ahead of it.
func (m *Matrix) hasRising(nodes []int) bool {
	last := -1
	for _, node := range nodes {
		if node <= last || !m.hasNode(node) {
			return false
		}
		last = node
	}
	return len(nodes) > 0
}

// open goes through the nodes that are up and at which a row's cell is free.
func (m *Matrix) open(row int) iter.Seq[int] {
	return m.where(row, func(node int, job uint32) bool { return job == 0 && m.IsUp(node) })
}

// taken goes through the nodes at which a row's cell isn't free.
func (m *Matrix) taken(row int) iter.Seq[int] {
	return m.where(row, func(_ int, job uint32) bool { return job != 0 })
}

// held goes through the nodes at which the job stands in a row.
func (m *Matrix) held(row int, job uint32) iter.Seq[int] {
	return m.where(row, func(_ int, other uint32) bool { return other == job })
}

// where goes through the nodes, rising, of which ok holds, with whose the row's cell is.
func (m *Matrix) where(row int, ok func(node int, job uint32) bool) iter.Seq[int] {
	return func(yield func(int) bool) {
		for node := range m.nodes {
			if ok(node, m.cells[row][node]) && !yield(node) {
				return
			}
		}
	}
}
