package yard_test

import (
	"slices"
	"strconv"
	"testing"

	"quadrille/api"
	"quadrille/brain"
	"quadrille/desk"
	"quadrille/jobs"
	"quadrille/note"
	"quadrille/yard"
)

// world is a yard, and what was seen of it.
type world struct {
	t     *testing.T
	c     yard.Config
	y     *yard.Yard
	blind bool // ticks pass that aren't looked at, so that nobody knows any more what ran

	seqs     [api.MaxClients]uint32
	table    *jobs.Table    // what clients were told
	replies  int            // how many there were
	together map[uint32]int // the ticks in which all ranks of a job ran
	widths   map[uint32]int // of all jobs that ever were
	cut      []*jobs.Table  // what may be there behind a crash beside what was told, the power having gone; nil: it hasn't
	count    counts
}

// counts is how often something happened.
type counts struct{ cut, cancelled, done, ran, refused, under int }

// add counts what happened elsewhere.
func (c *counts) add(x counts) {
	c.cut += x.cut
	c.cancelled += x.cancelled
	c.done += x.done
	c.ran += x.ran
	c.refused += x.refused
	c.under += x.under
}

// plain answers the numbers of layer 22.
func plain() yard.Config {
	return yard.Config{
		Desk: desk.Config{Brain: brain.Config{Nodes: 4, Rows: 3, Quantum: 5, Grace: 6}, Size: 60, Images: 200},
		Air:  1000,
	}
}

// made answers a world in which nothing has happened.
func made(t *testing.T, c yard.Config) *world {
	t.Helper()
	y, e := yard.New(c)
	if e != api.OK || y == nil {
		t.Fatalf("New(%+v): error %d", c, e)
	}
	return &world{t: t, c: c, y: y, table: y.Desk().Table(), together: map[uint32]int{}, widths: map[uint32]int{}}
}

// fail fails the test.
func (w *world) fail(what string, x ...any) {
	w.t.Helper()
	w.t.Fatal(append([]any{"tick " + strconv.Itoa(int(w.y.Now())) + ": " + what + ":"}, x...)...)
}

// nodes answers how many there are.
func (w *world) nodes() int { return w.c.Desk.Brain.Nodes }

// up tells whether there is a desk that is up.
func (w *world) up() bool { return w.y.Desk().Up() }

// is fails the test unless a step answers the error that is awaited.
func (w *world) is(s yard.Step, want api.Errno) {
	w.t.Helper()
	if e := w.y.Do(s); e != want {
		w.fail("a step", s, "error", e, "want", want)
	}
}

// do has a step happen, and looks at what is to be seen.
func (w *world) do(s yard.Step) api.Errno {
	w.t.Helper()
	e := w.y.Do(s)
	w.look()
	return e
}

// pass has a tick pass.
func (w *world) pass() {
	w.t.Helper()
	w.is(yard.Step{Kind: yard.Tick}, api.OK)
	w.ran()
	w.look()
}

// calm has ticks pass as in a Calm, and looks at each step of it.
func (w *world) calm(ticks int) {
	w.t.Helper()
	for range ticks {
		w.pass()
		for w.y.Air().Len() > 0 {
			w.do(yard.Step{Kind: yard.Land})
		}
	}
}

// deafen has a node be deaf, or not.
func (w *world) deafen(node int, on bool) {
	w.t.Helper()
	w.is(yard.Step{Kind: yard.Deaf, N: node, On: on}, api.OK)
	w.look()
}

// bytesOf answers the bytes of a request.
func bytesOf(t *testing.T, q api.Request) []byte {
	t.Helper()
	p, e := note.Request(q)
	if e != api.OK {
		t.Fatalf("%+v: error %d", q, e)
	}
	return p
}

// ask asks for q, and answers the reply; false: there is none.
func (w *world) ask(q api.Request) (api.Reply, bool) {
	w.t.Helper()
	wasUp, would := w.up(), w.table.Copy()
	want, done := would.Do(q)
	e := w.y.Do(yard.Step{Kind: yard.Ask, Data: bytesOf(w.t, q)})
	if e != api.OK {
		if e != api.ErrDown || w.up() {
			w.fail("no reply", q, "error", e)
		}
		if wasUp && done { // it was under way
			w.cut = []*jobs.Table{would}
			w.count.cut++
		}
		w.look()
		return api.Reply{}, false
	}
	w.replies++
	r := w.reply()
	if done && r == (api.Reply{Client: q.Client, Seq: q.Seq, E: api.ErrState}) {
		w.count.refused++
	} else {
		w.told(q, r, want)
		w.table = would
	}
	if done && r.E == api.OK {
		w.heed(q, r.Job)
	}
	w.look()
	return r, true
}

// reply answers the last one.
func (w *world) reply() api.Reply {
	w.t.Helper()
	l := w.y.Replies()
	if len(l) != w.replies {
		w.fail("replies", len(l), "want", w.replies)
	}
	r, e := note.ReadReply(l[len(l)-1])
	if e != api.OK {
		w.fail("the reply", l[len(l)-1], "error", e)
	}
	return r
}

// told fails the test unless r is what the table tells that is asked q, but for how far a job is.
func (w *world) told(q api.Request, r, want api.Reply) {
	w.t.Helper()
	if q.Kind == api.Query {
		r.State, r.Credit, want.State, want.Credit = 0, 0, 0, 0
	}
	if r != want {
		w.fail("told", q, r, "want", want)
	}
}

// heed takes in what was done.
func (w *world) heed(q api.Request, job uint32) {
	w.seqs[q.Client] = q.Seq
	if q.Kind == api.Submit {
		w.widths[job] = q.K
	} else {
		w.count.cancelled++
	}
}

// next asks for q as the next of a client's, and answers the job.
func (w *world) next(q api.Request) uint32 {
	w.t.Helper()
	q.Seq = w.seqs[q.Client] + 1
	r, ok := w.ask(q)
	if !ok || r.E != api.OK {
		w.fail("asked", q, r)
	}
	return r.Job
}

func (w *world) submit(tier byte, k, ticks int) uint32 {
	w.t.Helper()
	return w.next(api.Request{Kind: api.Submit, Tier: tier, K: k, W: ticks})
}

func (w *world) cancel(job uint32) {
	w.t.Helper()
	w.next(api.Request{Kind: api.Cancel, Job: job})
}

// job answers a job that the table is to know.
func (w *world) job(job uint32) api.Job {
	w.t.Helper()
	j, ok := w.y.Desk().Table().Job(job)
	if !ok {
		w.fail("isn't known", job)
	}
	return j
}

// ranks answers how many ranks of a job there are.
func (w *world) ranks(job uint32) int {
	n := 0
	for node := range w.nodes() {
		if slices.ContainsFunc(w.y.Hand(node).Ranks(), func(r api.Rank) bool { return r.Job == job }) {
			n++
		}
	}
	return n
}
