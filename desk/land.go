package desk

import (
	"slices"

	"quadrille/api"
	"quadrille/brain"
	"quadrille/lease"
	"quadrille/note"
	"quadrille/talk"
)

// Land takes in bytes that came from a node.
func (d *Desk) Land(p []byte) api.Errno {
	if d == nil {
		return api.ErrNone
	}
	k, e := note.ReadPacket(p)
	switch {
	case e != api.OK:
		return e
	case int(k.Node) >= len(d.talks):
		return api.ErrArg
	case !d.Up():
		return api.ErrDown
	}
	if k.Plain {
		d.greet(k)
	} else {
		d.listen(k)
	}
	d.work()
	return api.OK
}

// Tick has a tick pass.
func (d *Desk) Tick(now uint32) api.Errno {
	switch {
	case d == nil:
		return api.ErrNone
	case now <= d.now:
		return api.ErrStale
	case !d.Up():
		return api.ErrDown
	}
	d.now = now
	d.beat()
	for _, t := range d.talks {
		d.send(t.Tick()...)
	}
	d.brain.Tick(now)
	d.retry()
	d.work()
	return api.OK
}

// greet takes in a plain packet, which is to be a Hello of the packet's node and life, in this epoch.
func (d *Desk) greet(k api.Packet) {
	n, e := note.ReadNote(k.Data)
	if e != api.OK || n.Kind != api.Hello || n.Node != k.Node || n.Epoch != k.Epoch || n.Life != k.Life || k.Epoch != d.Epoch() {
		return
	}
	node := int(k.Node)
	fresh, lost := d.book.Hear(node, d.now, k.Life)
	if !fresh {
		return
	}
	if lost {
		d.lose(node)
	}
	d.brain.Up(node)
	d.talks[node] = talk.New(k.Node, k.Epoch, k.Life)
}

// listen has the node's talk hear a packet, and the brain what is told by that.
func (d *Desk) listen(k api.Packet) {
	p, told, answer, has := d.talks[k.Node].Hear(k)
	if has {
		d.send(answer)
	}
	if !told {
		return
	}
	if n, e := note.ReadNote(p); e == api.OK {
		d.brain.Hear(int(k.Node), n)
	}
}

// beat grants leases, tells those who are granted none the epoch, and gives up who is Away now.
func (d *Desk) beat() {
	grants, away := d.book.Tick(d.now)
	for _, g := range grants {
		d.sendBeat(g.Node, g.Until)
	}
	for node := range d.talks {
		if d.book.State(node) != lease.Up {
			d.sendBeat(node, 0)
		}
	}
	for _, node := range away {
		d.lose(node)
	}
}

// lose gives up a life of a node, with all that was said to it.
func (d *Desk) lose(node int) {
	d.brain.Lost(node)
	d.talks[node] = nil
	d.unsaid = slices.DeleteFunc(d.unsaid, func(o brain.Order) bool { return o.To == node })
}

// sendBeat sends a node a lease.
func (d *Desk) sendBeat(node int, until uint32) {
	epoch := d.Epoch()
	p, _ := note.Note(api.Note{Kind: api.Beat, Epoch: epoch, Tick: until})
	d.send(api.Packet{Node: byte(node), Epoch: epoch, Plain: true, Data: p})
}

// send has packets be sent to their nodes.
func (d *Desk) send(l ...api.Packet) {
	for _, k := range l {
		p, _ := note.Packet(k)
		d.out = append(d.out, api.Out{To: int(k.Node), Data: p})
	}
}
