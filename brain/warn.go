package brain

import (
	"quadrille/api"
	"quadrille/cap"
	"quadrille/rows"
	"quadrille/victim"
)

// warn has jobs make room for those of higher tiers who could not be placed, unless there will be room for them once all have gone who are going.
func (b *Brain) warn() {
	var going []uint32
	for _, j := range b.all() {
		if j.goes() {
			going = append(going, j.ID)
		}
	}
	m := without(b.matrix, going)
	l := b.line((*job).returns)
	starts := b.starts(m, l)
	for i, j := range l {
		if !j.waits() || starts[i].At == 0 {
			continue
		}
		if who := b.victims(m, l[:i+1]); len(who) > 0 {
			b.send(who)
			m = without(m, who)
			starts = b.starts(m, l)
		}
	}
}

// victims answers who has to go, of a matrix, so that the last one of a line starts; none, if that doesn't help.
func (b *Brain) victims(m *rows.Matrix, l []*job) []uint32 {
	j := l[len(l)-1]
	c, ok := victim.Choose(m, b.candidates(m), j.Tier, j.K)
	if !ok || len(c.Jobs) == 0 {
		return nil
	}
	// Who stands ahead of it may take the room.
	if starts := b.starts(without(m, c.Jobs), l); starts[len(l)-1].At > 0 {
		return nil
	}
	return c.Jobs
}

// candidates answers all who stand in a matrix, with their tiers.
func (b *Brain) candidates(m *rows.Matrix) []victim.Cand {
	var l []victim.Cand
	for _, id := range m.Jobs() {
		l = append(l, victim.Cand{Job: id, Tier: b.jobs[id].Tier})
	}
	return l
}

// without answers a matrix in which these jobs don't stand.
func without(m *rows.Matrix, who []uint32) *rows.Matrix {
	c := m.Copy()
	for _, id := range who {
		c.Remove(id)
	}
	return c
}

// send has jobs be warned. They stop at once, so that there is time to save what they have come to.
func (b *Brain) send(who []uint32) {
	until := cap.Later(b.now, b.c.Grace)
	for _, id := range who {
		j := b.jobs[id]
		j.warned, j.until = true, until
		for _, node := range j.ranks.list() {
			b.order(node, api.Note{Kind: api.Warn, Job: id, Tick: until})
		}
		b.halt(j)
		b.settle(j)
	}
}

// expire has those go whose grace is over.
func (b *Brain) expire() {
	for _, j := range b.all() {
		if j.warned && b.now >= j.until {
			b.leave(j)
		}
	}
}
