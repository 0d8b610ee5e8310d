package brain_test

import (
	"bytes"
	"cmp"
	"maps"
	"slices"

	"quadrille/api"
	"quadrille/brain"
	"quadrille/cap"
	"quadrille/plan"
	"quadrille/rows"
)

// history is what was seen of a job.
type history struct {
	job    api.Job // as it was added, with the credit that was published last
	ver    uint32
	work   int
	row    int
	nodes  []int          // that were told to Load, by rank
	loaded map[int]bool   // those that were heard to be Loaded
	runs   map[int]bool   // those that were told to Go and weren't heard to have stopped
	ran    [][2]uint32    // of those that were
	lame   bool           // what it runs doesn't count
	blobs  map[int][]byte // that were heard, by rank
	gone   bool           // it was told to Drop
	end    bool           // it was cancelled, or is Done
}

// lose has a job's work be its credit.
func (h *history) lose() {
	h.work = h.job.Credit
	h.lame, h.ran, h.blobs = true, nil, nil
}

// waiting answers the jobs that wait, in the order of layer 11.
func (w *world) waiting() []api.Job {
	var l []api.Job
	for _, id := range w.b.Jobs() {
		if j, _ := w.b.Job(id); j.State == api.Queued {
			l = append(l, j)
		}
	}
	slices.SortFunc(l, func(a, b api.Job) int {
		return cmp.Or(cmp.Compare(b.Tier, a.Tier), cmp.Compare(a.ID, b.ID))
	})
	return l
}

// profile answers from when on each cell is free, as P19.5 has it.
func (w *world) profile() plan.Profile {
	m := w.b.Matrix()
	var p plan.Profile
	for row := range w.c.Rows {
		p = append(p, make([]int, w.c.Nodes))
		for node := range w.c.Nodes {
			if j, ok := w.b.Job(m.At(row, node)); ok {
				p[row][node] = max(1, (j.W-j.Credit)*w.c.Rows)
			}
			if !m.IsUp(node) {
				p[row][node] = cap.Top
			}
		}
	}
	return p
}

// plan answers where each of those who wait starts.
func (w *world) plan() map[uint32]plan.Start {
	l := w.waiting()
	var asks []plan.Ask
	for _, j := range l {
		asks = append(asks, plan.Ask{K: j.K, Len: (j.W - j.Credit) * w.c.Rows})
	}
	starts := map[uint32]plan.Start{}
	for i, s := range plan.Plan(w.profile(), asks) {
		starts[l[i].ID] = s
	}
	return starts
}

// placed fails the test unless just those of the waiting whom the plan let start stand, and where it did, and all others as they did.
func (w *world) placed(was *rows.Matrix, starts map[uint32]plan.Start) {
	w.t.Helper()
	is := w.b.Matrix()
	for id, s := range starts {
		row, nodes, ok := is.Of(id)
		if ok && s.At == cap.Top {
			continue // who is ahead of it waits for nodes that aren't up, and may be passed, as P19.6 asks
		}
		if ok != (s.At == 0 && w.now > w.hold) || ok && (row != s.Row || !slices.Equal(nodes, s.Nodes)) {
			w.fail("placed", id, row, nodes, ok, "planned", s)
		}
	}
	for _, id := range was.Jobs() {
		if _, _, ok := is.Of(id); !ok {
			w.fail("stands no more", id)
		}
	}
}

// look takes what was ordered, and holds all that is told against what was seen.
func (w *world) look() {
	w.t.Helper()
	gos := map[uint32][]int{}
	for _, o := range w.b.Take() {
		if d := w.nodes[o.To]; !d.up || w.now <= w.hold {
			w.fail("ordered", o)
		}
		w.orders = append(w.orders, o)
		w.nodes[o.To].in = append(w.nodes[o.To].in, o.Note)
		w.told(o)
		if o.Note.Kind == api.Go {
			gos[o.Note.Job] = append(gos[o.Note.Job], o.To)
		}
	}
	if w.b.Gen() != w.gen || len(gos) > 0 {
		w.together(gos)
	}
	w.warned()
	w.stand()
	w.gang()
	w.done = append(w.done, w.b.Done()...)
}

// told takes in an order.
func (w *world) told(o brain.Order) {
	w.t.Helper()
	n, h := o.Note, w.jobs[o.Note.Job]
	want := api.Note{Kind: n.Kind, Job: n.Job}
	switch n.Kind {
	case api.Load:
		_, nodes, _ := w.b.Matrix().Of(n.Job)
		h.load(nodes)
		want.Ver, want.Rank, want.Credit = h.ver, byte(slices.Index(nodes, o.To)), h.job.Credit
	case api.Go:
		want.Gen = w.b.Gen()
	case api.Stop:
		want = api.Note{Kind: api.Stop, Gen: w.b.Gen()}
	case api.Save:
		want.Ver, want.Credit = h.ver+1, h.work
		h.blobs = nil
	case api.Warn:
		w.warns[n.Job] = n.Tick
		want.Tick = w.now + uint32(w.c.Grace)
	case api.Drop:
		w.drop(n.Job, h)
	default:
		want = api.Note{}
	}
	if n.Blob != nil || !same(n, want) {
		w.fail("ordered", o, "want", want)
	}
}

// same tells whether two notes are one.
func same(a, b api.Note) bool {
	p, q := a.Blob, b.Blob
	a.Blob, b.Blob = nil, nil
	return bytes.Equal(p, q) && a.Kind == b.Kind && a.Node == b.Node && a.Epoch == b.Epoch && a.Life == b.Life && a.Tick == b.Tick &&
		a.Gen == b.Gen && a.Job == b.Job && a.Ver == b.Ver && a.Rank == b.Rank && a.Credit == b.Credit && a.From == b.From && a.To == b.To
}

// load has the job stand at these nodes, of which none is Loaded yet.
func (h *history) load(nodes []int) {
	h.nodes, h.row, h.gone, h.lame = nodes, -1, false, false
	h.loaded, h.runs, h.ran = map[int]bool{}, map[int]bool{}, nil
}

// drop takes in that a job is to be dropped.
func (w *world) drop(job uint32, h *history) {
	w.t.Helper()
	until, warned := w.warns[job]
	if warned && !h.end && !h.lame && w.now < until && (h.work > h.job.Credit || len(h.runs) > 0) {
		w.fail("dropped ahead of its tick, not all of its work being published", job, until, h)
	}
	if !warned && !h.end && !h.lame {
		w.fail("dropped for nothing", job, h)
	}
	h.gone = true
	h.lose()
}

// together fails the test unless just the Members of the next generation were told to Go, all of each, at rest.
func (w *world) together(gos map[uint32][]int) {
	w.t.Helper()
	members := slices.Sorted(maps.Keys(gos))
	if w.b.Gen() != w.gen+1 || len(w.went) > 0 || !slices.Equal(w.b.Members(), members) {
		w.fail("Go", gos, "of", w.b.Gen(), "behind", w.gen, "at", w.went, "Members", w.b.Members())
	}
	w.gen++
	for _, id := range members {
		h, at := w.jobs[id], gos[id]
		if !slices.Equal(at, h.nodes) || len(h.loaded) != h.job.K || h.gone {
			w.fail("Go", id, "at", at, h)
		}
		h.ran, h.lame = nil, false
		for _, node := range at {
			if w.went[node] != 0 {
				w.fail("Go of two at one node", node, gos)
			}
			w.went[node] = id
			h.runs[node] = true
		}
	}
}

// warned holds who has grace against the Warns that were told.
func (w *world) warned() {
	w.t.Helper()
	for _, id := range w.b.Jobs() {
		until, ok := w.b.Warned(id)
		was, told := w.warns[id]
		state, _ := w.state(id)
		if ok && (!told || until != was || state == api.Queued) || !ok && until != 0 || told && !ok && state != api.Queued {
			w.fail("Warned", id, until, ok, "told", was, told, "state", state)
		}
		if !ok {
			delete(w.warns, id)
		}
	}
}

// fresh fails the test unless those who were warned at this tick were warned for one of a higher tier who waits, at all their nodes.
func (w *world) fresh() {
	w.t.Helper()
	l := w.waiting()
	for id, until := range w.warns {
		if until != w.now+uint32(w.c.Grace) {
			continue
		}
		w.count.warned++
		h := w.jobs[id]
		if len(l) == 0 || l[0].Tier <= h.job.Tier {
			w.fail("warned for nobody", id, "wait", l)
		}
		for _, node := range h.nodes {
			if !slices.ContainsFunc(w.nodes[node].in, func(n api.Note) bool { return n.Kind == api.Warn && n.Job == id && n.Tick == until }) {
				w.fail("not warned", id, "at", node)
			}
		}
	}
}

// stand holds the jobs that are known, and who stands where, against what was seen.
func (w *world) stand() {
	w.t.Helper()
	m := w.b.Matrix()
	var standing []uint32
	for _, id := range w.b.Jobs() {
		h := w.jobs[id]
		j, _ := w.b.Job(id)
		want := h.job
		if want.State = j.State; j != want || j.State > api.Leaving {
			w.fail("known", j, "want", want)
		}
		row, nodes, ok := m.Of(id)
		if ok != (j.State != api.Queued) || ok && !slices.Equal(nodes, h.nodes) {
			w.fail("stands", j, nodes, "want", h.nodes)
		}
		if ok {
			standing = append(standing, id)
			h.place(w, row)
		}
	}
	if !slices.Equal(m.Jobs(), standing) {
		w.fail("stand", m.Jobs(), "want", standing)
	}
	for node, d := range w.nodes {
		if m.IsUp(node) != d.up {
			w.fail("up", node, m.IsUp(node))
		}
	}
}

// place counts the moves from row to row.
func (h *history) place(w *world, row int) {
	if h.row >= 0 && h.row != row {
		w.count.moved++
	}
	h.row = row
}

// gang fails the test unless all ranks that run are of Members and of the last generation, and none runs at rest.
func (w *world) gang() {
	w.t.Helper()
	rest := w.b.Resting()
	if rest != (len(w.went) == 0) {
		w.fail("Resting", rest, w.went)
	}
	for node, d := range w.nodes {
		if id := d.runs(); id != 0 && (rest || d.ranks[id].gen != w.b.Gen() || !slices.Contains(w.b.Members(), id)) {
			w.fail("runs", node, id, "of", d.ranks[id].gen, "generation", w.b.Gen(), w.b.Members())
		}
	}
}

// said takes in what a node says.
func (w *world) said(node int, n api.Note) {
	switch n.Kind {
	case api.Loaded:
		w.jobs[n.Job].loaded[node] = true
	case api.Stopped:
		h := w.jobs[w.went[node]]
		delete(w.went, node)
		delete(h.runs, node)
		h.stopped(n)
	case api.Saved:
		h := w.jobs[n.Job]
		if h.blobs == nil {
			h.blobs = map[int][]byte{}
		}
		h.blobs[int(n.Rank)] = slices.Clone(n.Blob)
	}
}

// stopped adds to the work what all ranks of a job ran together, once all have stopped.
func (h *history) stopped(n api.Note) {
	if n.From > 0 {
		h.ran = append(h.ran, [2]uint32{n.From, n.To})
	}
	if h.lame || len(h.runs) > 0 || len(h.ran) < h.job.K {
		return
	}
	for tick := h.ran[0][0]; tick <= h.ran[0][1]; tick++ {
		if !slices.ContainsFunc(h.ran, func(s [2]uint32) bool { return tick < s[0] || tick > s[1] }) {
			h.work = min(h.work+1, h.job.W)
		}
	}
}

// image fails the test unless an image is the one that comes next, of all the work, with what all ranks have said.
func (w *world) image(x brain.Image) {
	w.t.Helper()
	h := w.jobs[x.Job]
	if x.Ver != h.ver+1 || x.Credit != h.work || x.Credit > h.job.W || len(x.Blobs) != h.job.K || len(h.blobs) != h.job.K {
		w.fail("image", x, h)
	}
	for i, p := range x.Blobs {
		if !bytes.Equal(p, h.blobs[i]) {
			w.fail("blob", i, string(p), string(h.blobs[i]))
		}
	}
}
