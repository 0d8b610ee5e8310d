package desk

import (
	"quadrille/api"
	"quadrille/brain"
	"quadrille/cap"
	"quadrille/image"
	"quadrille/jobs"
	"quadrille/lease"
	"quadrille/scroll"
	"quadrille/slab"
	"quadrille/talk"
)

const (
	rootSectors = 2 // ahead of the scroll's areas
	areas       = 2
)

// Format begins a desk without jobs.
func Format(s *slab.Slab, c Config) api.Errno {
	if e := fits(s, c); e != api.OK {
		return e
	}
	if e := wipe(s, behind(c)); e != api.OK {
		return e
	}
	t, _ := jobs.New(c.Brain.Nodes)
	return scroll.Format(s, c.Size, t.Bytes())
}

// Open answers the desk that is there, at the tick now.
func Open(s *slab.Slab, c Config, now uint32) (*Desk, api.Errno) {
	if e := fits(s, c); e != api.OK {
		return nil, e
	}
	l, e := scroll.Open(s, c.Size)
	if e != api.OK {
		return nil, e
	}
	t, e := lasting(l, c.Brain.Nodes)
	if e != api.OK {
		return nil, e
	}
	images, e := image.Open(s, front(c), behind(c), l.Epoch())
	if e != api.OK {
		return nil, e
	}
	d := &Desk{slab: s, size: c.Size, now: now, scroll: l, images: images, table: t}
	// Nodes that an earlier opening told to run may do so till their leases are over.
	d.brain, _ = brain.New(c.Brain, cap.Later(now, api.Lease+1))
	d.book, _ = lease.New(c.Brain.Nodes)
	d.talks = make([]*talk.Talk, c.Brain.Nodes)
	d.tidy()
	d.resume()
	d.work()
	if !d.Up() {
		return nil, api.ErrDown
	}
	return d, api.OK
}

// fits answers ErrNone or ErrArg where there is no slab for such a desk, or where there can be none such.
func fits(s *slab.Slab, c Config) api.Errno {
	if s == nil {
		return api.ErrNone
	}
	if _, e := brain.New(c.Brain, 0); e != api.OK {
		return api.ErrArg
	}
	if !isCount(c.Size) || !isCount(c.Images) || s.Len() < behind(c) {
		return api.ErrArg
	}
	return api.OK
}

// isCount tells whether there may be so many sectors.
func isCount(n int) bool { return n >= 1 && n <= api.MaxSectors }

// front answers the first sector of the images.
func front(c Config) int { return rootSectors + areas*c.Size }

// behind answers how many sectors a desk has: the images stand behind all else.
func behind(c Config) int { return front(c) + c.Images }

// wipe has noughts on the first n sectors: roots, records and images of an earlier desk would be taken for those of the new one.
func wipe(s *slab.Slab, n int) api.Errno {
	for i := range n {
		p, e := s.Read(i)
		if e != api.OK {
			return e
		}
		if isBlank(p) {
			continue
		}
		if e := s.Write(i, nil); e != api.OK {
			return e
		}
	}
	return api.OK // they are flushed ahead of the root
}

// isBlank tells whether all bytes are noughts.
func isBlank(p []byte) bool {
	for _, b := range p {
		if b != 0 {
			return false
		}
	}
	return true
}

// tidy drops the images of jobs that aren't active.
func (d *Desk) tidy() {
	for _, job := range d.images.List() {
		if !d.isActive(job) {
			d.drop(job)
		}
	}
}

// resume has the brain know the active jobs, with what they have come to.
func (d *Desk) resume() {
	for _, j := range d.table.Active() {
		x, _ := d.images.Get(j.ID)
		d.table.Credit(j.ID, x.Credit)
		j, _ = d.table.Job(j.ID)
		d.brain.Add(j, x.Ver)
	}
}
