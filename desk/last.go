package desk

import (
	"math"

	"quadrille/api"
	"quadrille/ink"
	"quadrille/jobs"
	"quadrille/note"
	"quadrille/scroll"
)

// What a record is of: the number in front.
const (
	asked    = iota + 1 // a request: its bytes, and the credit of the job that it cancels, which images don't tell any more
	finished            // a job that is Done: its number
)

// lasting answers the table that the snapshot and the records of a scroll tell.
func lasting(l *scroll.Scroll, nodes int) (*jobs.Table, api.Errno) {
	t, e := jobs.Read(l.Snapshot(), nodes)
	if e != api.OK {
		return nil, e
	}
	for _, p := range l.Records() {
		if !redo(t, p) {
			return nil, api.ErrForm
		}
	}
	return t, api.OK
}

// redo has the table do what a record tells; false: it is none.
func redo(t *jobs.Table, p []byte) bool {
	eye := ink.Read(p)
	switch eye.Num() {
	case asked:
		text, credit := eye.Text(), eye.Int()
		q, e := note.ReadRequest(text)
		if e != api.OK || eye.End() != api.OK {
			return false
		}
		if credit > 0 && t.Credit(q.Job, credit) != api.OK {
			return false
		}
		_, done := t.Do(q)
		return done
	case finished:
		job := eye.Num()
		return eye.End() == api.OK && job <= math.MaxUint32 && t.Finish(uint32(job)) == api.OK
	}
	return false
}

// keepAsked has a request last that the table is to do: its bytes, and the job that it cancels, or 0.
func (d *Desk) keepAsked(request []byte, job uint32) api.Errno {
	j, _ := d.table.Job(job)
	p := ink.New()
	p.Num(asked)
	p.Text(request)
	p.Int(j.Credit)
	return d.keep(p.Bytes())
}

// keepFinished has it last that a job is Done.
func (d *Desk) keepFinished(job uint32) api.Errno {
	p := ink.New()
	p.Num(finished)
	p.Num(uint64(job))
	return d.keep(p.Bytes())
}

// keep has a record last, behind a snapshot, if there is no room else; ErrFull: there is none with a snapshot either.
func (d *Desk) keep(record []byte) api.Errno {
	l := [][]byte{record}
	if n := scroll.Parts(l); n > d.scroll.Left() {
		snapshot := d.table.Bytes()
		if scroll.Parts([][]byte{snapshot})+n > d.size {
			return api.ErrFull
		}
		if e := d.scroll.Compact(snapshot); e != api.OK {
			return d.heed(e)
		}
	}
	return d.heed(d.scroll.Add(l))
}

// drop has a job have no image any more, if it has one.
func (d *Desk) drop(job uint32) api.Errno {
	if e := d.images.Drop(job); e != api.ErrNone {
		return d.heed(e)
	}
	return api.OK
}

// heed answers an error of what stands on the slab, behind which, if it is ErrDown, the desk isn't up any more.
func (d *Desk) heed(e api.Errno) api.Errno {
	if e == api.ErrDown {
		d.down = true
	}
	return e
}
