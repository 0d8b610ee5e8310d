package desk

import (
	"quadrille/api"
	"quadrille/note"
)

// Ask answers the bytes of the reply to a request.
func (d *Desk) Ask(p []byte) ([]byte, api.Errno) {
	if d == nil {
		return nil, api.ErrNone
	}
	q, e := note.ReadRequest(p)
	switch {
	case e != api.OK:
		return nil, e
	case !d.Up():
		return nil, api.ErrDown
	}
	r, e := d.do(q, p)
	if e != api.OK {
		return nil, e
	}
	return note.Reply(r)
}

// do answers the reply to q, whose bytes are p. What q does lasts ahead of its being done anywhere else.
func (d *Desk) do(q api.Request, p []byte) (api.Reply, api.Errno) {
	next := d.table.Copy()
	r, done := next.Do(q)
	if !done {
		return r, api.OK
	}
	switch e := d.keepAsked(p, q.Job); e {
	case api.OK:
	case api.ErrFull:
		return api.Reply{Client: q.Client, Seq: q.Seq, E: api.ErrState}, api.OK
	default:
		return api.Reply{}, e
	}
	if q.Kind == api.Cancel {
		if e := d.drop(r.Job); e != api.OK {
			return api.Reply{}, e
		}
	}
	d.table = next
	d.pass(q.Kind, r.Job)
	d.work()
	return r, api.OK
}

// pass has the brain know of a job that was submitted, or cancelled.
func (d *Desk) pass(kind byte, job uint32) {
	if kind == api.Cancel {
		d.brain.Cancel(job)
		return
	}
	j, _ := d.table.Job(job)
	d.brain.Add(j, 0)
}
