package brain

import (
	"slices"

	"quadrille/api"
)

// daemon is what is known of a node.
type daemon struct {
	up   bool
	busy bool // it was told to Go, and hasn't said Stopped of that generation
	stop bool // it was told to Stop
	runs *job // whose rank it was told to run; nil, if what that has run is of no account any more
}

// hasNode tells whether there is such a node.
func (b *Brain) hasNode(node int) bool { return node >= 0 && node < len(b.nodes) }

// Up has a node be up, without ranks.
func (b *Brain) Up(node int) api.Errno {
	switch {
	case b == nil:
		return api.ErrNone
	case !b.hasNode(node):
		return api.ErrArg
	case b.nodes[node].up:
		return api.ErrState
	}
	b.nodes[node].up = true
	b.matrix.Up(node, true)
	return api.OK
}

// talks answers what goes before whatever is told of a node that is up.
func (b *Brain) talks(node int) api.Errno {
	switch {
	case b == nil:
		return api.ErrNone
	case !b.hasNode(node):
		return api.ErrArg
	case !b.nodes[node].up:
		return api.ErrState
	}
	return api.OK
}

// Lost has a node not be up any more, and have no ranks.
func (b *Brain) Lost(node int) api.Errno {
	if e := b.talks(node); e != api.OK {
		return e
	}
	b.nodes[node] = daemon{}
	b.matrix.Up(node, false)
	// It may be up again ahead of the next Take, and is to hear nothing then of ranks that it had.
	b.orders = slices.DeleteFunc(b.orders, func(o Order) bool { return o.To == node })
	for _, j := range b.all() {
		if j.ranks.drop(node) {
			b.leave(j)
		}
	}
	return api.OK
}

// Hear takes in what a node says.
func (b *Brain) Hear(node int, n api.Note) api.Errno {
	if e := b.talks(node); e != api.OK {
		return e
	}
	if n.Kind == api.Stopped {
		b.stopped(node, n)
		return api.OK
	}
	j := b.find(n.Job)
	if j == nil {
		return api.OK
	}
	switch n.Kind {
	case api.Loaded:
		b.loaded(j, node)
	case api.Saved:
		j.say(node, n)
	case api.Dropped:
		b.dropped(j, node)
	}
	return api.OK
}

// loaded has a job be Placed, once all its ranks are Loaded.
func (b *Brain) loaded(j *job, node int) {
	if j.State == api.Loading && j.loads.drop(node) && j.loads.empty() {
		j.State = api.Placed
	}
}

// dropped has a job be gone, once none of its ranks is left.
func (b *Brain) dropped(j *job, node int) {
	if j.State == api.Leaving && j.ranks.drop(node) {
		b.leave(j)
	}
}

// stopped has a node rest, and has what its job ran count, once all its nodes do.
func (b *Brain) stopped(node int, n api.Note) {
	d := &b.nodes[node]
	if !d.busy || !d.stop || n.Gen != b.gen {
		return
	}
	j := d.runs
	d.busy, d.stop, d.runs = false, false, nil
	if j == nil {
		return
	}
	if n.Job == j.ID && n.From > 0 {
		j.ran = append(j.ran, [2]uint32{n.From, n.To})
	}
	if !b.running(j) {
		j.count()
		b.settle(j)
	}
}
