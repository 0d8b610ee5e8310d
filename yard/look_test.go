package yard_test

import (
	"bytes"
	"slices"

	"quadrille/api"
	"quadrille/image"
	"quadrille/jobs"
	"quadrille/yard"
)

// look fails the test unless what is there is as it is promised.
func (w *world) look() {
	w.t.Helper()
	w.follow()
	w.acknowledged()
	if !w.blind {
		w.gang()
		w.credited()
	}
}

// ran counts the jobs all of whose ranks have run in this tick, at as many nodes, in one generation.
func (w *world) ran() {
	ranks := map[[3]uint32][]byte{}
	for node := range w.nodes() {
		h := w.y.Hand(node)
		for _, r := range h.Ranks() {
			if x := [3]uint32{r.Job, h.Epoch(), r.Gen}; r.Run && r.To == w.y.Now() {
				ranks[x] = append(ranks[x], r.Rank)
			}
		}
	}
	for x, l := range ranks {
		slices.Sort(l)
		if k := w.widths[x[0]]; len(l) == k && len(slices.Compact(l)) == k {
			w.together[x[0]]++
			w.count.ran++
		}
	}
}

// gang fails the test unless at most one rank runs at a node, all that run are of one epoch and one generation, and those of the desk's epoch are of Members.
func (w *world) gang() {
	w.t.Helper()
	gens := map[[2]uint32]bool{}
	for node := range w.nodes() {
		h := w.y.Hand(node)
		l := slices.DeleteFunc(h.Ranks(), func(r api.Rank) bool { return !r.Run })
		if len(l) > 1 {
			w.fail("more than one runs", node, l)
		}
		for _, r := range l {
			gens[[2]uint32{h.Epoch(), r.Gen}] = true
			if d := w.y.Desk(); h.Epoch() == d.Epoch() && (r.Gen != d.Brain().Gen() || !slices.Contains(d.Brain().Members(), r.Job)) {
				w.fail("runs and is no Member", node, r, d.Brain().Gen(), d.Brain().Members())
			}
		}
	}
	if len(gens) > 1 {
		w.fail("epochs and generations that run", gens)
	}
}

// credited fails the test unless nobody is credited what did not run, and who is Done has just his ticks.
func (w *world) credited() {
	w.t.Helper()
	t := w.y.Desk().Table()
	for _, j := range append(t.Active(), t.Over()...) {
		if j.Credit > w.together[j.ID] || j.State == api.Done && j.Credit != j.W {
			w.fail("credited", j, "all its ranks ran for", w.together[j.ID])
		}
	}
}

// follow has the jobs of the table that was told come as far as they have come, and be Finished as they become Done.
func (w *world) follow() {
	t := w.y.Desk().Table()
	for _, j := range t.Active() {
		w.table.Credit(j.ID, j.Credit)
	}
	for _, j := range t.Over() {
		if x, ok := w.table.Job(j.ID); ok && x.State <= api.Leaving && j.State == api.Done {
			w.table.Finish(j.ID)
			w.count.done++
		}
	}
}

// acknowledged fails the test unless the desk has what clients were told, and the yard the replies.
func (w *world) acknowledged() {
	w.t.Helper()
	if t := w.y.Desk().Table(); !bytes.Equal(t.Bytes(), w.table.Bytes()) {
		w.fail("the table is", t.Bytes(), "was", w.table.Bytes())
	}
	if l := w.y.Replies(); len(l) != w.replies {
		w.fail("replies", len(l), "want", w.replies)
	}
	if !w.up() && w.cut == nil {
		w.cut = orDone(w.table)
		w.count.cut++
	}
}

// orDone answers what a table would be if one of its active jobs were Done.
func orDone(was *jobs.Table) []*jobs.Table {
	l := []*jobs.Table{}
	for _, j := range was.Active() {
		x := was.Copy()
		x.Finish(j.ID)
		l = append(l, x)
	}
	return l
}

// crash has the power go and come back, and fails the test unless there is what was told, or besides what was under way, and the same when it crashes again.
func (w *world) crash(fates []byte, cut int) {
	w.t.Helper()
	epoch := w.y.Desk().Epoch()
	l := append([]*jobs.Table{w.table}, w.cut...)
	w.is(yard.Step{Kind: yard.Crash, Data: fates, Cut: cut}, api.OK)
	d := w.y.Desk()
	was := d.Table()
	i := slices.IndexFunc(l, func(x *jobs.Table) bool { return bytes.Equal(x.Bytes(), was.Bytes()) })
	if i < 0 || !d.Up() || d.Epoch() <= epoch {
		w.fail("behind a crash the table is", was.Bytes(), "was", w.table.Bytes(), "epoch", d.Epoch(), "behind", epoch)
	}
	if i > 0 {
		w.count.under++
	}
	w.table, w.cut = l[i], nil
	w.learn()
	w.imaged()
	w.look()
	w.is(yard.Step{Kind: yard.Crash}, api.OK)
	if t := w.y.Desk().Table(); !bytes.Equal(was.Bytes(), t.Bytes()) || !slices.Equal(was.Active(), t.Active()) {
		w.fail("opened again it is", t.Active(), "was", was.Active())
	}
	w.look()
}

// learn takes in a request that was under way and is done.
func (w *world) learn() {
	for _, j := range w.table.Active() {
		w.widths[j.ID] = j.K
	}
	for client := range w.seqs {
		for w.isDone(byte(client), w.seqs[client]+1) {
			w.seqs[client]++
		}
	}
}

// isDone tells whether a client's request of that number was done: it is neither out of order nor new.
func (w *world) isDone(client byte, seq uint32) bool {
	nobody := api.Request{Client: client, Seq: seq, Kind: api.Cancel, Job: 1 << 30}
	r, _ := w.table.Copy().Do(nobody)
	return r.E == api.OK || r.E == api.ErrStale
}

// imaged fails the test unless the credit of each active job is that of its image.
func (w *world) imaged() {
	w.t.Helper()
	s := w.y.Slab()
	c, e := image.Open(s, s.Len()-w.c.Desk.Images, s.Len(), 1<<30)
	if e != api.OK {
		w.fail("image.Open: error", e)
	}
	for _, j := range w.y.Desk().Table().Active() {
		if x, _ := c.Get(j.ID); j.Credit != x.Credit || j.State != api.Queued {
			w.fail("behind a crash", j, "its image", x)
		}
	}
}
