package desk

import (
	"quadrille/api"
	"quadrille/brain"
	"quadrille/image"
	"quadrille/note"
)

// work does what the brain wants, as long as there is anything.
func (d *Desk) work() {
	for more := true; more && d.Up(); {
		orders, images, ended := d.brain.Take(), d.brain.Images(), d.brain.Done()
		more = len(orders)+len(images)+len(ended) > 0
		d.say(orders)
		d.finish(ended)
		for _, x := range images {
			d.publish(x)
		}
	}
	d.tell()
}

// say has orders be said, behind those for which there was no room.
func (d *Desk) say(orders []brain.Order) {
	l := append(d.unsaid, orders...)
	d.unsaid = nil
	for _, o := range l {
		if !d.sayOne(o) {
			d.unsaid = append(d.unsaid, o)
		}
	}
}

// sayOne has an order be said by its node's talk; false: there is no room for it, nor for any other one till the node has answered.
func (d *Desk) sayOne(o brain.Order) bool {
	p, _ := note.Note(o.Note)
	k, e := d.talks[o.To].Say(p)
	if e == api.OK {
		d.send(k)
	}
	return e != api.ErrFull
}

// publish puts an image, and has the brain know whether it was.
func (d *Desk) publish(x brain.Image) {
	e := d.heed(d.images.Put(image.Image{Job: x.Job, Ver: x.Ver, Credit: x.Credit, Blobs: x.Blobs}))
	if e == api.OK {
		d.table.Credit(x.Job, x.Credit)
	}
	d.brain.Published(x.Job, x.Ver, e == api.OK)
}

// finish has jobs be Done, each once that lasts.
func (d *Desk) finish(l []uint32) {
	for _, job := range l {
		if !d.isActive(job) { // it was cancelled while there was no room
			continue
		}
		switch d.keepFinished(job) {
		case api.OK:
			d.table.Finish(job)
			d.drop(job)
		case api.ErrFull:
			d.ended = append(d.ended, job)
		}
	}
}

// retry has those be Done for whom there was no room.
func (d *Desk) retry() {
	l := d.ended
	d.ended = nil
	d.finish(l)
}

// isActive tells whether a job is known, and isn't over.
func (d *Desk) isActive(job uint32) bool {
	j, ok := d.table.Job(job)
	return ok && j.State <= api.Leaving
}

// tell has the table have the brain's states.
func (d *Desk) tell() {
	for _, j := range d.table.Active() {
		if x, ok := d.brain.Job(j.ID); ok {
			d.table.State(j.ID, x.State)
		}
	}
}
