package brain

import (
	"quadrille/api"
	"quadrille/cap"
	"quadrille/prio"
)

// end has the generation end, if it is time.
func (b *Brain) end() {
	if b.now < b.ends {
		return
	}
	for node := range b.nodes {
		b.stop(node)
	}
}

// stop has a node that runs a rank be told to Stop, once.
func (b *Brain) stop(node int) {
	if d := &b.nodes[node]; d.busy && !d.stop {
		d.stop = true
		b.order(node, api.Note{Kind: api.Stop, Gen: b.gen})
	}
}

// halt has all ranks of a job stop, and lets the others of its generation run on.
func (b *Brain) halt(j *job) {
	for node := range b.nodes {
		if b.nodes[node].runs == j {
			b.stop(node)
		}
	}
}

// running tells whether any rank of a job that is of account runs.
func (b *Brain) running(j *job) bool {
	for _, d := range b.nodes {
		if d.runs == j {
			return true
		}
	}
	return false
}

// start has the next generation begin, if nothing runs and anybody can.
func (b *Brain) start() {
	if !b.Resting() {
		return
	}
	l := b.longest()
	if len(l) == 0 {
		return
	}
	b.gen++
	b.members = set[uint32]{}
	ticks := 0
	row, _, _ := b.matrix.Of(l[0].ID)
	mates, others := b.split(l, row)
	for _, j := range append(mates, others...) {
		if b.join(j) {
			ticks = max(ticks, j.left())
		}
	}
	b.ends = cap.Later(b.now, min(ticks, b.c.Quantum))
}

// longest answers who may be told to Go, who has waited for it longest first.
func (b *Brain) longest() []*job {
	h := prio.New()
	for _, j := range b.all() {
		if j.ready() {
			h.Push(prio.Item{ID: j.ID, Since: j.last})
		}
	}
	return b.inOrder(h)
}

// split parts those who stand in a row from the others.
func (b *Brain) split(l []*job, row int) (mates, others []*job) {
	for _, j := range l {
		if at, _, _ := b.matrix.Of(j.ID); at == row {
			mates = append(mates, j)
		} else {
			others = append(others, j)
		}
	}
	return mates, others
}

// join has all nodes of a job be told to Go, unless one of them runs another one.
func (b *Brain) join(j *job) bool {
	for _, node := range j.nodes {
		if b.nodes[node].busy {
			return false
		}
	}
	for _, node := range j.nodes {
		d := &b.nodes[node]
		d.busy, d.stop, d.runs = true, false, j
		b.order(node, api.Note{Kind: api.Go, Gen: b.gen, Job: j.ID})
	}
	j.last = b.gen
	b.members.add(j.ID)
	return true
}
