package brain

import "quadrille/api"

// settle has a job that doesn't run save what isn't published of its work, or go, if it was warned and nothing is lost by that.
func (b *Brain) settle(j *job) {
	switch {
	case b.running(j):
	case j.work > j.Credit:
		b.save(j)
	case j.warned:
		b.leave(j)
	}
}

// save has the ranks of a job be asked for their blobs, unless an image of it is under way.
func (b *Brain) save(j *job) {
	if j.image != unasked {
		return
	}
	j.image, j.saved = asked, j.work
	j.saves = setOf(j.nodes)
	j.blobs = make([][]byte, j.K)
	for _, node := range j.nodes {
		b.order(node, api.Note{Kind: api.Save, Job: j.ID, Ver: j.next(), Credit: j.work})
	}
}

// again has those save who were told not to have been published, and can't go on without that.
func (b *Brain) again() {
	for _, j := range b.all() {
		if j.State == api.Placed && (j.warned || j.left() == 0) {
			b.settle(j)
		}
	}
}

// Images answers the images that are to be published, each once.
func (b *Brain) Images() []Image {
	if b == nil {
		return nil
	}
	var l []Image
	for _, j := range b.all() {
		if j.image == whole {
			l = append(l, Image{Job: j.ID, Ver: j.next(), Credit: j.saved, Blobs: j.blobs})
			j.image, j.blobs = told, nil
		}
	}
	return l
}

// Published has an image be published, or not: then it is asked for again later.
func (b *Brain) Published(job, ver uint32, ok bool) api.Errno {
	j := b.find(job)
	if j == nil || j.image != told || ver != j.next() {
		return api.ErrNone
	}
	j.image = unasked
	if !ok || j.cancelled {
		return api.OK
	}
	j.ver, j.Credit = ver, j.saved
	j.work = max(j.work, j.Credit) // a node may have been lost since
	switch {
	case j.Credit == j.W:
		b.finish(j)
	case j.warned:
		b.settle(j)
	}
	return api.OK
}

// finish has a job be Done.
func (b *Brain) finish(j *job) {
	j.over = true
	b.done = append(b.done, j.ID)
	b.leave(j)
}
