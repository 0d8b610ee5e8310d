package jobs

import (
	"quadrille/api"
	"quadrille/note"
)

// Do answers the reply to q, and whether q was done.
func (t *Table) Do(q api.Request) (api.Reply, bool) {
	r := api.Reply{Client: q.Client, Seq: q.Seq}
	if r.E = t.right(q); r.E != api.OK {
		return r, false
	}
	if q.Kind == api.Query {
		return t.tell(q.Job, r), false
	}
	last := t.replies[q.Client]
	if r.E = inTurn(q.Seq, last.Seq); r.E != api.OK {
		return r, false
	}
	if q.Seq == last.Seq {
		return last, false
	}
	r.Job, r.E = t.change(q)
	if r.E != api.OK {
		return r, false
	}
	t.replies[q.Client] = r
	return r, true
}

// right answers why q is no request to this table.
func (t *Table) right(q api.Request) api.Errno {
	if t == nil {
		return api.ErrNone
	}
	_, e := note.Request(q)
	return e
}

// tell answers r with what is known of a job.
func (t *Table) tell(job uint32, r api.Reply) api.Reply {
	j, ok := t.Job(job)
	if !ok {
		r.E = api.ErrNone
		return r
	}
	r.Job, r.State, r.Credit = j.ID, j.State, j.Credit
	return r
}

// inTurn answers why a request with the number seq is neither a client's last nor its next.
func inTurn(seq, last uint32) api.Errno {
	switch {
	case seq == 0:
		return api.ErrArg
	case seq < last:
		return api.ErrStale
	case seq-last > 1:
		return api.ErrOrder
	}
	return api.OK
}

// change does a Submit or a Cancel, and answers the job's number.
func (t *Table) change(q api.Request) (uint32, api.Errno) {
	if q.Kind == api.Submit {
		return t.submit(q)
	}
	return t.cancel(q.Job)
}

// submit has a job more.
func (t *Table) submit(q api.Request) (uint32, api.Errno) {
	switch {
	case q.Tier > api.MaxTier || q.K < 1 || q.W < 1 || q.W > api.MaxWall:
		return 0, api.ErrArg
	case q.K > t.nodes:
		return 0, api.ErrWide
	case len(t.active) >= api.MaxJobs || t.Next() == 0:
		return 0, api.ErrFull
	}
	t.last++
	t.active = append(t.active, api.Job{ID: t.last, Tier: q.Tier, K: q.K, W: q.W})
	return t.last, api.OK
}

// cancel has a job be over as it stands.
func (t *Table) cancel(job uint32) (uint32, api.Errno) {
	if _, e := t.living(job); e != api.OK {
		return 0, e
	}
	t.end(job, api.Cancelled)
	return job, api.OK
}
