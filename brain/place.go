package brain

import (
	"slices"

	"quadrille/api"
	"quadrille/cap"
	"quadrille/plan"
	"quadrille/prio"
	"quadrille/rows"
)

// patience is for how many ticks those who could start stay behind one who needs more nodes than are up: time enough for a node to be given up and to be there again.
const patience = 2 * (api.Lease + api.Quiet)

// place has all those who wait stand where the plan lets them start now.
func (b *Brain) place() {
	b.watch()
	l := b.line((*job).waits)
	for i, s := range b.starts(b.matrix, l) {
		if s.OK && s.At == 0 {
			b.put(l[i], s)
		}
	}
}

// put has a job stand where it starts, and its ranks be loaded there.
func (b *Brain) put(j *job, s plan.Start) {
	b.matrix.Put(j.ID, s.Row, s.Nodes)
	j.State = api.Loading
	j.nodes = s.Nodes
	j.ranks, j.loads = setOf(s.Nodes), setOf(s.Nodes)
	j.last = b.gen
	for rank, node := range s.Nodes {
		b.order(node, api.Note{Kind: api.Load, Job: j.ID, Ver: j.ver, Rank: byte(rank), Credit: j.Credit})
	}
}

// watch counts the ticks for which anybody was barred.
func (b *Brain) watch() {
	if b.bars(b.queue((*job).waits)) {
		b.barred++
	} else {
		b.barred = 0
	}
}

// bars tells whether, of those who wait, one for whom there are too few nodes keeps another one, for whom there are enough, from ever starting: he has all the cells that are free in the only row reserved for himself.
func (b *Brain) bars(l []*job) bool {
	if !slices.ContainsFunc(l, func(j *job) bool { return !b.fits(j) }) {
		return false
	}
	for i, s := range b.starts(b.matrix, l) {
		if s.At == cap.Top && b.fits(l[i]) {
			return true
		}
	}
	return false
}

// line answers the jobs of which ok holds, in the order in which they are placed. While others have been kept from ever starting for too long, those for whom there are too few nodes don't stand in it.
func (b *Brain) line(ok func(*job) bool) []*job {
	return b.queue(func(j *job) bool {
		return ok(j) && (b.barred <= patience || b.fits(j))
	})
}

// queue answers all jobs of which ok holds, in the order in which they are placed.
func (b *Brain) queue(ok func(*job) bool) []*job {
	h := prio.New()
	for _, j := range b.all() {
		if ok(j) {
			h.Push(prio.Item{ID: j.ID, Tier: j.Tier})
		}
	}
	return b.inOrder(h)
}

// inOrder answers the jobs of a heap, who goes first first.
func (b *Brain) inOrder(h *prio.Heap) []*job {
	var l []*job
	for _, x := range h.List() {
		l = append(l, b.jobs[x.ID])
	}
	return l
}

// fits tells whether as many nodes are up as a job needs.
func (b *Brain) fits(j *job) bool {
	n := 0
	for _, d := range b.nodes {
		if d.up {
			n++
		}
	}
	return j.K <= n
}

// starts answers the plan of these jobs on a matrix.
func (b *Brain) starts(m *rows.Matrix, l []*job) []plan.Start {
	asks := make([]plan.Ask, len(l))
	for i, j := range l {
		asks[i] = plan.Ask{K: j.K, Len: b.span(j)}
	}
	return plan.Plan(b.profile(m), asks)
}

// profile answers from when on each cell of a matrix is free.
func (b *Brain) profile(m *rows.Matrix) plan.Profile {
	p := make(plan.Profile, b.c.Rows)
	for row := range p {
		p[row] = make([]int, b.c.Nodes)
		for node := range p[row] {
			p[row][node] = b.free(m, row, node)
		}
	}
	return p
}

// free answers from when on a cell of a matrix is free.
func (b *Brain) free(m *rows.Matrix, row, node int) int {
	j := b.jobs[m.At(row, node)]
	switch {
	case !m.IsUp(node):
		return cap.Top
	case j == nil:
		return 0
	}
	return max(b.span(j), 1)
}

// span answers for how many ticks a job needs its cells, as far as is published: one of all rows' turns in so many is its own.
func (b *Brain) span(j *job) int { return cap.Mul(cap.Left(j.W, j.Credit), b.c.Rows) }
