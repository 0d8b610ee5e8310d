package jobs_test

import (
	"math/rand"
	"slices"
	"testing"

	"quadrille/api"
	"quadrille/jobs"
)

// model is a table as all jobs that there ever were, and all replies.
type model struct {
	nodes int
	jobs  []api.Job // the job n at the place n - 1
	ended []uint32
	said  [api.MaxClients][]api.Reply
}

// known tells of a job, and whether it is known.
func (m *model) known(job uint32) (*api.Job, bool) {
	if job == 0 || int(job) > len(m.jobs) {
		return nil, false
	}
	i := slices.Index(m.ended, job)
	return &m.jobs[job-1], i < 0 || i >= len(m.ended)-api.MaxJobs
}

// active answers the jobs that aren't over.
func (m *model) active() []api.Job {
	var l []api.Job
	for _, j := range m.jobs {
		if j.State != api.Done && j.State != api.Cancelled {
			l = append(l, j)
		}
	}
	return l
}

// over answers the jobs that are known to be over.
func (m *model) over() []api.Job {
	var l []api.Job
	for _, job := range m.ended {
		if j, ok := m.known(job); ok {
			l = append(l, *j)
		}
	}
	return l
}

// living tells of a job that goes on.
func (m *model) living(job uint32) (*api.Job, api.Errno) {
	j, ok := m.known(job)
	switch {
	case !ok:
		return nil, api.ErrNone
	case slices.Contains(m.ended, job):
		return nil, api.ErrOver
	}
	return j, api.OK
}

// do is Do of a request that is right.
func (m *model) do(q api.Request) (api.Reply, bool) {
	r := api.Reply{Client: q.Client, Seq: q.Seq}
	said := m.said[q.Client]
	switch {
	case q.Kind == api.Query:
		j, ok := m.known(q.Job)
		if !ok {
			r.E = api.ErrNone
		} else {
			r.Job, r.State, r.Credit = j.ID, j.State, j.Credit
		}
		return r, false
	case q.Seq == 0:
		r.E = api.ErrArg
	case int(q.Seq) < len(said):
		r.E = api.ErrStale
	case int(q.Seq) == len(said):
		return said[q.Seq-1], false
	case int(q.Seq) > len(said)+1:
		r.E = api.ErrOrder
	case q.Kind == api.Submit:
		r.Job, r.E = m.submit(q)
	default:
		r.Job, r.E = m.cancel(q.Job)
	}
	if r.E != api.OK {
		return r, false
	}
	m.said[q.Client] = append(said, r)
	return r, true
}

func (m *model) submit(q api.Request) (uint32, api.Errno) {
	switch {
	case q.Tier > 3 || q.K == 0 || q.W == 0 || q.W > 10000:
		return 0, api.ErrArg
	case q.K > m.nodes:
		return 0, api.ErrWide
	case len(m.active()) == 64:
		return 0, api.ErrFull
	}
	job := uint32(len(m.jobs) + 1)
	m.jobs = append(m.jobs, api.Job{ID: job, Tier: q.Tier, K: q.K, W: q.W})
	return job, api.OK
}

func (m *model) cancel(job uint32) (uint32, api.Errno) {
	j, e := m.living(job)
	if e != api.OK {
		return 0, e
	}
	j.State = api.Cancelled
	m.ended = append(m.ended, job)
	return job, api.OK
}

func (m *model) finish(job uint32) api.Errno {
	j, e := m.living(job)
	if e == api.OK {
		j.State, j.Credit = api.Done, j.W
		m.ended = append(m.ended, job)
	}
	return e
}

func (m *model) credit(job uint32, n int) api.Errno {
	j, e := m.living(job)
	switch {
	case e != api.OK:
		return e
	case n < 0 || n > j.W:
		return api.ErrArg
	case n < j.Credit:
		return api.ErrStale
	}
	j.Credit = n
	return api.OK
}

func (m *model) state(job uint32, state byte) api.Errno {
	if state > 3 {
		return api.ErrArg
	}
	j, e := m.living(job)
	if e == api.OK {
		j.State = state
	}
	return e
}

// forget has all active jobs be as they are when they are read.
func (m *model) forget() {
	for _, j := range m.active() {
		m.jobs[j.ID-1].State, m.jobs[j.ID-1].Credit = api.Queued, 0
	}
}

// asked answers a request, next in its client's order mostly.
func (m *model) asked(r *rand.Rand, clients int) api.Request {
	client := byte(r.Intn(clients))
	seq := len(m.said[client]) + 1
	if r.Intn(5) == 0 {
		seq = max(0, seq+r.Intn(5)-2)
	}
	q := api.Request{Client: client, Seq: uint32(seq), Kind: api.Submit}
	if r.Intn(2) == 0 {
		q.Kind = byte(api.Cancel + r.Intn(2))
	}
	if q.Kind == api.Submit {
		q.Tier, q.K, q.W = byte(r.Intn(4)), 1+r.Intn(m.nodes), 1+r.Intn(30)
		switch r.Intn(12) {
		case 0:
			q.Tier = 4
		case 1:
			q.K = r.Intn(20)
		case 2:
			q.W = r.Intn(2) * 10001
		}
	} else {
		q.Job = m.some(r)
	}
	return q
}

// some answers a job's number: of one that is new mostly.
func (m *model) some(r *rand.Rand) uint32 {
	if r.Intn(4) > 0 {
		return uint32(max(0, len(m.jobs)+1-r.Intn(80)))
	}
	return uint32(r.Intn(len(m.jobs) + 2))
}

// TestAgainstModel holds what a table answers, call by call, against all that there ever was; now and then the table is its own copy, or is read of its bytes.
func TestAgainstModel(t *testing.T) {
	for seed := range int64(80) {
		r := rand.New(rand.NewSource(seed))
		m := &model{nodes: 1 + r.Intn(api.MaxNodes)}
		x := made(t, m.nodes)
		// Few or many are active, and become over in order or not.
		rare, clients := 1+r.Intn(4)*r.Intn(4), 1+r.Intn(api.MaxClients)
		for range 1000 {
			step(t, r, x, m, rare, clients)
			switch r.Intn(40) {
			case 0:
				x = x.Copy()
			case 1:
				y := reads(t, x.Bytes(), m.nodes)
				alike(t, x, y)
				x = y
				m.forget()
			}
			holds(t, x, m.active(), m.over())
			if int(x.Next()) != len(m.jobs)+1 {
				t.Fatalf("Next: %d, want %d", x.Next(), len(m.jobs)+1)
			}
		}
		alike(t, x, reads(t, x.Bytes(), m.nodes))
	}
}

// step does one call to both, and fails the test unless they answer the same.
func step(t *testing.T, r *rand.Rand, x *jobs.Table, m *model, rare, clients int) {
	t.Helper()
	job := m.some(r)
	switch r.Intn(6) {
	case 0, 1, 2:
		q := m.asked(r, clients)
		if q.Kind == api.Cancel && r.Intn(rare) > 0 {
			return
		}
		got, done := x.Do(q)
		if want, ok := m.do(q); got != want || done != ok {
			t.Fatalf("Do(%+v): %+v, %v; want %+v, %v", q, got, done, want, ok)
		}
	case 3:
		if r.Intn(rare) == 0 {
			answers(t, "Finish", x.Finish(job), m.finish(job))
		}
	case 4:
		n := r.Intn(34) - 2
		answers(t, "Credit", x.Credit(job, n), m.credit(job, n))
	case 5:
		state := byte(r.Intn(5))
		answers(t, "State", x.State(job, state), m.state(job, state))
	}
}
