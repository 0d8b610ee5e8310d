package brain

import (
	"quadrille/api"
	"quadrille/shuffle"
)

// leave has a job go: all its nodes are told to be rid of it.
func (b *Brain) leave(j *job) {
	if j.State != api.Leaving {
		b.halt(j)
		for node := range b.nodes { // what it has run since isn't published
			if b.nodes[node].runs == j {
				b.nodes[node].runs = nil
			}
		}
		for _, node := range j.ranks.list() {
			b.order(node, api.Note{Kind: api.Drop, Job: j.ID})
		}
		j.State = api.Leaving
		j.forget()
	}
	if j.ranks.empty() {
		b.gone(j)
	}
}

// gone has a job of which no node has a rank any more stand no longer: it is known no more, or waits anew.
func (b *Brain) gone(j *job) {
	b.matrix.Remove(j.ID)
	if j.cancelled || j.over {
		delete(b.jobs, j.ID)
	} else {
		j.State = api.Queued
		j.nodes = nil
		j.warned, j.until = false, 0
	}
	b.tidy()
}

// tidy has jobs stand as far ahead as they can, so that there are fewer rows to take turns, unless anybody would have to wait longer for that.
func (b *Brain) tidy() {
	m, moves := shuffle.Repack(b.matrix)
	if len(moves) == 0 {
		return
	}
	l := b.line((*job).waits)
	was, is := b.starts(b.matrix, l), b.starts(m, l)
	for i := range l {
		if is[i].At > was[i].At {
			return
		}
	}
	b.matrix = m
}
