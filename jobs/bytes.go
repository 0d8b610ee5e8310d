package jobs

import (
	"math"

	"quadrille/api"
	"quadrille/ink"
)

// Bytes answers all that was asked and answered, and what is over.
func (t *Table) Bytes() []byte {
	if t == nil {
		return nil
	}
	p := ink.New()
	p.Num(uint64(t.last))
	p.Int(len(t.active))
	for _, j := range t.active {
		writeJob(p, j)
	}
	for _, j := range t.over { // how many they are follows from what stands ahead
		writeJob(p, j)
		writeEnd(p, j)
	}
	for _, r := range t.replies {
		p.Num(uint64(r.Seq))
		if hasAsked(r) {
			p.Num(uint64(r.Job))
		}
	}
	return p.Bytes()
}

// hasAsked answers whether a client whose last reply that is has asked for anything.
func hasAsked(r api.Reply) bool {
	return r != api.Reply{}
}

// writeJob writes what a client asked for.
func writeJob(p *ink.Pen, j api.Job) {
	p.Num(uint64(j.ID))
	p.Num(uint64(j.Tier))
	p.Int(j.K)
	p.Int(j.W)
}

// writeEnd writes what came of a job. One that is Done has all its ticks.
func writeEnd(p *ink.Pen, j api.Job) {
	p.Bool(j.State == api.Done)
	if j.State != api.Done {
		p.Int(j.Credit)
	}
}

// Read answers the table of that many nodes whose Bytes are p.
func Read(p []byte, nodes int) (t *Table, e api.Errno) {
	t, e = New(nodes)
	if e != api.OK {
		return nil, e
	}
	defer func() {
		switch gave := recover().(type) {
		case api.Errno:
			t, e = nil, gave
		case error: // no call panics, should this one have a fault of its own
			t, e = nil, api.ErrForm
		}
	}()
	t.read(reader{ink.Read(p)})
	must(t.isPossible())
	return t, api.OK
}

// must gives up reading, unless ok.
func must(ok bool) {
	if !ok {
		panic(api.ErrForm)
	}
}

// reader reads what stands in a table's bytes, and gives up where it may not stand there.
type reader struct {
	*ink.Eye
}

// number reads one of least to most.
func (r reader) number(least, most uint64) uint64 {
	n := r.Num()
	must(least <= n && n <= most)
	return n
}

// job reads what a client asked for: one of so many jobs, on so many nodes.
func (r reader) job(jobs uint32, nodes int) api.Job {
	return api.Job{
		ID:   uint32(r.number(1, uint64(jobs))),
		Tier: byte(r.number(0, api.MaxTier)),
		K:    int(r.number(1, uint64(nodes))),
		W:    int(r.number(1, api.MaxWall)),
	}
}

// ended answers a job with what came of it, which it reads.
func (r reader) ended(j api.Job) api.Job {
	j.State, j.Credit = api.Done, j.W
	if !r.Bool() {
		j.State, j.Credit = api.Cancelled, int(r.number(0, uint64(j.W)))
	}
	return j
}

// reply reads what a client was answered last: one of so many jobs.
func (r reader) reply(client byte, jobs uint32) api.Reply {
	seq := uint32(r.number(0, math.MaxUint32))
	if seq == 0 {
		return api.Reply{}
	}
	return api.Reply{Client: client, Seq: seq, Job: uint32(r.number(1, uint64(jobs)))}
}

// read reads all of a table.
func (t *Table) read(r reader) {
	t.last = uint32(r.number(0, math.MaxUint32))
	active := r.number(0, min(api.MaxJobs, uint64(t.last)))
	for range active {
		t.active = append(t.active, r.job(t.last, t.nodes))
	}
	for range min(api.MaxJobs, uint64(t.last)-active) {
		t.over = append(t.over, r.ended(r.job(t.last, t.nodes)))
	}
	for client := range t.replies {
		t.replies[client] = r.reply(byte(client), t.last)
	}
	must(r.End() == api.OK)
}
