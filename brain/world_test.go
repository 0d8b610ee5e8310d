package brain_test

import (
	"cmp"
	"slices"
	"strconv"
	"testing"

	"quadrille/api"
	"quadrille/brain"
)

// rank is one of a job's at a node.
type rank struct {
	number   byte
	run      bool
	gen      uint32
	from, to uint32
}

// daemon is a node as layer 17 has it, but for leases; what it is told comes in order, and so does what it says.
type daemon struct {
	up    bool
	ranks map[uint32]*rank
	in    []api.Note
	out   []api.Note
}

// flight is an image that was told and waits.
type flight struct {
	job, ver uint32
	credit   int
}

// world is a brain, its nodes, and what was seen of it.
type world struct {
	t      *testing.T
	b      *brain.Brain
	c      brain.Config
	hold   uint32
	now    uint32
	nodes  []*daemon
	jobs   map[uint32]*history
	images []flight
	gen    uint32
	went   map[int]uint32    // whose rank each node was told to run in gen, of those that weren't heard to have stopped
	warns  map[uint32]uint32 // the ticks that were told to those who were warned
	done   []uint32
	orders []brain.Order // all
	count  struct{ moved, warned, lame, refused int }
}

// made answers a world whose nodes are all up.
func made(t *testing.T, c brain.Config, hold uint32) *world {
	t.Helper()
	b, e := brain.New(c, hold)
	if e != api.OK {
		t.Fatalf("New(%+v): error %d", c, e)
	}
	w := &world{t: t, b: b, c: c, hold: hold, jobs: map[uint32]*history{}, went: map[int]uint32{}, warns: map[uint32]uint32{}}
	for node := range c.Nodes {
		w.nodes = append(w.nodes, &daemon{})
		w.up(node)
	}
	return w
}

// fail fails the test.
func (w *world) fail(what string, x ...any) {
	w.t.Helper()
	w.t.Fatal(append([]any{"tick " + strconv.Itoa(int(w.now)) + ": " + what + ":"}, x...)...)
}

// is fails the test unless an error is the one that is awaited.
func (w *world) is(what string, got, want api.Errno) {
	w.t.Helper()
	if got != want {
		w.fail(what, "error", got, "want", want)
	}
}

func (w *world) up(node int) {
	w.t.Helper()
	w.is("Up", w.b.Up(node), api.OK)
	*w.nodes[node] = daemon{up: true, ranks: map[uint32]*rank{}}
}

func (w *world) lost(node int) {
	w.t.Helper()
	w.is("Lost", w.b.Lost(node), api.OK)
	*w.nodes[node] = daemon{}
	delete(w.went, node)
	for _, h := range w.jobs {
		delete(h.runs, node)
		if slices.Contains(h.nodes, node) && !h.gone {
			w.count.lame++
			h.lose()
		}
	}
	w.look()
}

func (w *world) add(j api.Job, ver uint32) {
	w.t.Helper()
	w.is("Add", w.b.Add(j, ver), api.OK)
	w.jobs[j.ID] = &history{job: j, ver: ver, work: j.Credit, end: j.Credit == j.W}
	w.look()
}

func (w *world) cancel(job uint32) {
	w.t.Helper()
	want := api.OK
	if h := w.jobs[job]; h == nil || h.end {
		want = api.ErrNone
	} else {
		h.end = true
	}
	w.is("Cancel", w.b.Cancel(job), want)
	w.is("Cancel again", w.b.Cancel(job), api.ErrNone)
	w.look()
}

// tick has a tick pass.
func (w *world) tick() {
	w.t.Helper()
	w.now++
	for _, d := range w.nodes {
		for _, r := range d.ranks {
			if r.run {
				r.to = w.now
				r.from = cmp.Or(r.from, w.now)
			}
		}
	}
	starts := w.plan()
	was := w.b.Matrix()
	w.is("Tick", w.b.Tick(w.now), api.OK)
	w.is("Tick again", w.b.Tick(w.now), api.ErrStale)
	w.placed(was, starts)
	w.look()
	w.fresh()
}

// deliver has what a node was told first come there; false: there is nothing.
func (w *world) deliver(node int) bool {
	w.t.Helper()
	d := w.nodes[node]
	if len(d.in) == 0 {
		return false
	}
	n := d.in[0]
	d.in = d.in[1:]
	if d.deaf(n) {
		w.fail("would be passed over", node, n)
	}
	d.obey(n)
	w.gang()
	return true
}

// runs answers the job whose rank runs; 0: none does.
func (d *daemon) runs() uint32 {
	for id, r := range d.ranks {
		if r.run {
			return id
		}
	}
	return 0
}

// deaf tells whether a hand would pass a note over.
func (d *daemon) deaf(n api.Note) bool {
	r := d.ranks[n.Job]
	switch n.Kind {
	case api.Load:
		return r != nil
	case api.Go:
		return r == nil || d.runs() != 0
	case api.Save:
		return r == nil || r.run
	case api.Warn, api.Drop:
		return r == nil
	}
	return n.Kind != api.Stop
}

// obey has a node do as it is told.
func (d *daemon) obey(n api.Note) {
	r := d.ranks[n.Job]
	switch n.Kind {
	case api.Load:
		d.ranks[n.Job] = &rank{number: n.Rank}
		d.say(api.Note{Kind: api.Loaded, Job: n.Job})
	case api.Go:
		r.run, r.gen, r.from, r.to = true, n.Gen, 0, 0
	case api.Stop:
		said := api.Note{Kind: api.Stopped, Gen: n.Gen, Job: d.runs()}
		if r := d.ranks[said.Job]; r != nil {
			r.run = false
			said.From, said.To = r.from, r.to
		}
		d.say(said)
	case api.Save:
		d.say(api.Note{Kind: api.Saved, Job: n.Job, Ver: n.Ver, Rank: r.number, Blob: blob(n.Job, n.Ver, n.Credit, int(r.number))})
	case api.Drop:
		delete(d.ranks, n.Job)
		d.say(api.Note{Kind: api.Dropped, Job: n.Job})
	}
}

func (d *daemon) say(n api.Note) { d.out = append(d.out, n) }

// blob answers what a rank tells of itself.
func blob(job, ver uint32, credit, number int) []byte {
	var p []byte
	for _, n := range []int{int(job), int(ver), credit, number} {
		p = strconv.AppendInt(append(p, ' '), int64(n), 10)
	}
	return p
}

// hear has the brain hear what a node has said first; false: there is nothing.
func (w *world) hear(node int) bool {
	w.t.Helper()
	d := w.nodes[node]
	if len(d.out) == 0 {
		return false
	}
	n := d.out[0]
	d.out = d.out[1:]
	w.said(node, n)
	w.is("Hear", w.b.Hear(node, n), api.OK)
	clear(n.Blob) // it isn't the brain's
	w.look()
	return true
}

// tell takes in the images that are told.
func (w *world) tell() {
	w.t.Helper()
	for _, x := range w.b.Images() {
		w.image(x)
		w.images = append(w.images, flight{x.Job, x.Ver, x.Credit})
	}
	if l := w.b.Images(); len(l) > 0 {
		w.fail("told again", l)
	}
}

// publish answers the first one of the images that wait; false: there is none.
func (w *world) publish(ok bool) bool {
	w.t.Helper()
	if len(w.images) == 0 {
		return false
	}
	f := w.images[0]
	w.images = w.images[1:]
	if _, known := w.b.Job(f.job); !known {
		w.is("Published of who is gone", w.b.Published(f.job, f.ver, ok), api.ErrNone)
		return true
	}
	w.is("Published of another version", w.b.Published(f.job, f.ver+1, ok), api.ErrNone)
	w.is("Published", w.b.Published(f.job, f.ver, ok), api.OK)
	w.is("Published twice", w.b.Published(f.job, f.ver, ok), api.ErrNone)
	if !ok {
		w.count.refused++
	} else if h := w.jobs[f.job]; !h.end {
		h.job.Credit, h.ver = f.credit, f.ver
		h.work = max(h.work, f.credit)
		h.end = f.credit == h.job.W
	}
	w.look()
	return true
}

// calm has all that is under way come, be answered, and be published.
func (w *world) calm() {
	w.t.Helper()
	for busy := true; busy; {
		busy = false
		for node := range w.nodes {
			busy = w.deliver(node) || busy
			busy = w.hear(node) || busy
		}
		w.tell()
		busy = w.publish(true) || busy
	}
}

// move has the first thing that is under way come, or a tick pass, if nothing is.
func (w *world) move() {
	w.t.Helper()
	for node := range w.nodes {
		if w.deliver(node) {
			return
		}
	}
	for node := range w.nodes {
		if w.hear(node) {
			return
		}
	}
	if w.publish(true) {
		return
	}
	if w.tell(); len(w.images) == 0 {
		w.tick()
	}
}

// until has one thing behind another come till ok holds.
func (w *world) until(what string, ok func() bool) {
	w.t.Helper()
	for range 5000 {
		if ok() {
			return
		}
		w.move()
	}
	w.fail("never comes", what)
}

// says tells whether a node has said something of that kind that wasn't heard.
func (w *world) says(node int, kind byte) func() bool {
	return func() bool {
		return slices.ContainsFunc(w.nodes[node].out, func(n api.Note) bool { return n.Kind == kind })
	}
}

// isTold tells whether a node is told something of that kind that hasn't come.
func (w *world) isTold(node int, kind byte) func() bool {
	return func() bool {
		return slices.ContainsFunc(w.nodes[node].in, func(n api.Note) bool { return n.Kind == kind })
	}
}

// isDone tells whether all these are Done.
func (w *world) isDone(l ...uint32) func() bool {
	return func() bool {
		for _, id := range l {
			if !slices.Contains(w.done, id) {
				return false
			}
		}
		return true
	}
}

// state answers a job's state, and false if it isn't known.
func (w *world) state(job uint32) (byte, bool) {
	j, ok := w.b.Job(job)
	return j.State, ok
}
