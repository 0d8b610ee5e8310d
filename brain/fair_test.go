package brain_test

import (
	"slices"
	"testing"

	"quadrille/api"
	"quadrille/brain"
)

// row fails the test unless a row of the matrix has these jobs.
func (w *world) row(row int, want ...uint32) {
	w.t.Helper()
	m := w.b.Matrix()
	for node, job := range want {
		if m.At(row, node) != job {
			w.fail("row", row, "node", node, "has", m.At(row, node), "want", job)
		}
	}
}

// TestPlaced: those whom the plan lets start are placed, in the order of tiers, then of numbers, where it has them start.
func TestPlaced(t *testing.T) {
	w := made(t, brain.Config{Nodes: 4, Rows: 2, Quantum: 5, Grace: 5}, 0)
	w.add(api.Job{ID: 9, Tier: 2, K: 2, W: 9}, 0)
	w.add(api.Job{ID: 7, Tier: 2, K: 3, W: 9}, 0)
	w.add(api.Job{ID: 3, Tier: 0, K: 1, W: 9}, 0)
	w.add(api.Job{ID: 5, Tier: 3, K: 1, W: 9}, 0)
	w.add(api.Job{ID: 6, Tier: 1, K: 2, W: 9}, 0)
	w.row(0, 0, 0, 0, 0)
	w.tick()
	w.row(0, 5, 7, 7, 7)
	w.row(1, 9, 9, 6, 6)
	if s, _ := w.state(3); s != api.Queued {
		t.Fatalf("state %d", s)
	}
}

// TestNotAhead: who could start doesn't, if that made anybody ahead of it wait longer; and does, if it doesn't.
func TestNotAhead(t *testing.T) {
	w := made(t, brain.Config{Nodes: 4, Rows: 1, Quantum: 5, Grace: 5}, 0)
	w.add(api.Job{ID: 1, K: 2, W: 20}, 0)
	w.add(api.Job{ID: 2, K: 3, W: 20}, 0) // waits for 1: the nodes that are free are reserved for it
	w.add(api.Job{ID: 3, K: 1, W: 21}, 0)
	w.add(api.Job{ID: 4, K: 1, W: 1}, 0)
	w.tick()
	w.row(0, 1, 1, 0, 0)
	w.until("Done", w.isDone(1))
	if w.isDone(3)() || w.isDone(4)() {
		t.Fatal("who came later was ahead")
	}
	w.until("all Done", w.isDone(1, 2, 3, 4))
}

// TestFreeFrom: a cell is free from as many ticks on as its job has left by its credit, times the rows.
func TestFreeFrom(t *testing.T) {
	w := made(t, brain.Config{Nodes: 3, Rows: 2, Quantum: 1, Grace: 5}, 0)
	w.add(api.Job{ID: 1, K: 2, W: 30}, 0)
	w.add(api.Job{ID: 2, K: 3, W: 40, Credit: 5}, 0)
	w.add(api.Job{ID: 3, K: 3, W: 30}, 0)
	w.add(api.Job{ID: 4, K: 1, W: 5}, 0)
	w.until("all Done", w.isDone(1, 2, 3, 4)) // the world holds each Tick against the plan
}

// TestNodesThatAreNotUp: nobody is placed at a node that isn't up.
func TestNodesThatAreNotUp(t *testing.T) {
	w := made(t, brain.Config{Nodes: 4, Rows: 1, Quantum: 5, Grace: 5}, 0)
	w.lost(1)
	w.add(api.Job{ID: 1, K: 2, W: 9}, 0)
	w.tick()
	w.row(0, 1, 0, 1, 0)
	w.add(api.Job{ID: 2, K: 2, W: 9}, 0)
	w.tick()
	w.row(0, 1, 0, 1, 0)
	w.up(1)
	w.row(0, 1, 0, 1, 0)
	w.tick()
	w.row(0, 1, 2, 1, 2)
}

// TestPlacedAtTicks: nobody is placed, or warned, but at a Tick.
func TestPlacedAtTicks(t *testing.T) {
	w := made(t, brain.Config{Nodes: 2, Rows: 1, Quantum: 5, Grace: 5}, 0)
	w.tick()
	w.add(api.Job{ID: 1, K: 1, W: 9}, 0)
	w.lost(1)
	w.up(1)
	w.calm()
	if len(w.b.Matrix().Jobs()) > 0 {
		t.Fatal("placed, and no tick has passed")
	}
	w.tick()
	w.calm()
	w.add(api.Job{ID: 2, Tier: 3, K: 2, W: 9}, 0)
	w.calm()
	if _, ok := w.b.Warned(1); ok {
		t.Fatal("warned, and no tick has passed")
	}
}

// TestWarned: for one of a higher tier who waits, at a Tick, at all nodes, with the tick that is Grace ticks on; then who waits has the place, and who was warned waits anew, with its credit.
func TestWarned(t *testing.T) {
	w := warnedOne(t)
	until, ok := w.b.Warned(1)
	if !ok || until != w.now+9 || w.count.warned != 1 {
		t.Fatalf("warned up to %d, %v, at %d", until, ok, w.now)
	}
	w.until("Done", w.isDone(2))
	if w.now > until+20 {
		t.Fatalf("tick %d, and it was to be gone at %d", w.now, until)
	}
	w.until("Done", w.isDone(1))
	if w.jobs[1].job.Credit != 300 {
		t.Fatalf("credit %d", w.jobs[1].job.Credit)
	}
}

// TestWarnedKeepsItsWork: what it had run isn't lost, if that is published in time, be it at the second go; then it goes at once.
func TestWarnedKeepsItsWork(t *testing.T) {
	for _, refused := range []bool{false, true} {
		w := warnedOne(t)
		until, _ := w.b.Warned(1)
		if refused {
			w.until("an image", func() bool { return len(w.images) > 0 })
			w.publish(false)
			w.tick()
		}
		w.calm()
		j, _ := w.b.Job(1)
		if _, ok := w.b.Warned(1); ok || j.Credit != 5 || j.State != api.Queued || w.now >= until {
			t.Fatalf("tick %d of %d: %+v, warned: %v", w.now, until, j, ok)
		}
	}
}

// TestGrace: who was warned isn't dropped ahead of its tick, while not all of its work is published; then it is, with what was.
func TestGrace(t *testing.T) {
	for _, how := range []string{"a rank doesn't stop", "a rank isn't saved", "an image isn't published"} {
		w := warnedOne(t)
		until, _ := w.b.Warned(1)
		dropped := func() bool { return w.jobs[1].gone }
		for w.now < until {
			if dropped() {
				t.Fatalf("%s: dropped at %d, and it has grace up to %d", how, w.now, until)
			}
			for range 20 {
				if how != "a rank doesn't stop" {
					w.deliver(0)
				}
				if how != "a rank isn't saved" || !w.says(0, api.Saved)() {
					w.hear(0)
				}
				w.deliver(1)
				w.hear(1)
				w.tell()
			}
			w.tick()
		}
		if !dropped() {
			t.Fatalf("%s: not dropped at %d", how, until)
		}
		if how == "an image isn't published" {
			w.publish(false)
		}
		w.until("wait", func() bool { s, _ := w.state(1); return s == api.Queued })
		if j, _ := w.b.Job(1); j.Credit != 0 {
			t.Fatalf("%s: %+v", how, j)
		}
		w.until("Done", w.isDone(1, 2))
	}
}

// TestWarnNearTheEnd: the tick that a Warn names is the last one, if there are no more.
func TestWarnNearTheEnd(t *testing.T) {
	b, _ := brain.New(brain.Config{Nodes: 1, Rows: 1, Quantum: 5, Grace: 1000}, 0)
	b.Up(0)
	b.Add(api.Job{ID: 1, K: 1, W: 9}, 0)
	b.Tick(api.MaxTick - 3)
	b.Hear(0, api.Note{Kind: api.Loaded, Job: 1})
	b.Tick(api.MaxTick - 2)
	b.Add(api.Job{ID: 2, Tier: 1, K: 1, W: 9}, 0)
	b.Take()
	b.Tick(api.MaxTick - 1)
	l := b.Take()
	if !slices.ContainsFunc(l, func(o brain.Order) bool { return same(o.Note, api.Note{Kind: api.Warn, Job: 1, Tick: api.MaxTick}) }) {
		t.Fatalf("%+v", l)
	}
	if until, ok := b.Warned(1); !ok || until != api.MaxTick {
		t.Fatalf("warned up to %d, %v", until, ok)
	}
}

// TestNotWarned: nobody is for his equal, for a lesser one, for one who is placed, or for one for whom that isn't enough.
func TestNotWarned(t *testing.T) {
	for _, x := range []struct {
		what string
		jobs []api.Job // the last one comes later
	}{
		{"an equal", []api.Job{{ID: 1, Tier: 2, K: 2, W: 200}, {ID: 2, Tier: 2, K: 2, W: 9}}},
		{"a lesser one", []api.Job{{ID: 1, Tier: 2, K: 2, W: 200}, {ID: 2, Tier: 1, K: 2, W: 9}}},
		{"one who is placed", []api.Job{{ID: 1, Tier: 0, K: 1, W: 200}, {ID: 2, Tier: 3, K: 2, W: 9}}},
		{"one for whom it isn't enough", []api.Job{{ID: 1, Tier: 0, K: 1, W: 200}, {ID: 2, Tier: 3, K: 2, W: 200}, {ID: 3, Tier: 3, K: 3, W: 9}}},
	} {
		w := made(t, brain.Config{Nodes: 3, Rows: 1, Quantum: 5, Grace: 3}, 0)
		for i, j := range x.jobs {
			if i == len(x.jobs)-1 {
				for range 3 {
					w.tick()
					w.calm()
				}
			}
			w.add(j, 0)
		}
		for range 20 {
			w.tick()
			w.calm()
		}
		if w.count.warned > 0 {
			t.Errorf("%s: %d were warned", x.what, w.count.warned)
		}
	}
}

// TestNotWarnedInVain: nobody goes for one who couldn't start then, as others are ahead of him.
func TestNotWarnedInVain(t *testing.T) {
	w := made(t, brain.Config{Nodes: 4, Rows: 1, Quantum: 5, Grace: 3}, 0)
	w.add(api.Job{ID: 1, Tier: 2, K: 2, W: 200}, 0)
	w.add(api.Job{ID: 2, Tier: 0, K: 1, W: 200}, 0)
	w.tick()
	w.calm()
	w.add(api.Job{ID: 3, Tier: 2, K: 4, W: 9}, 0) // waits for 1
	w.add(api.Job{ID: 4, Tier: 1, K: 2, W: 9}, 0) // has room, if 2 goes, but 3 is ahead
	for range 20 {
		w.tick()
		w.calm()
	}
	if w.count.warned > 0 {
		t.Fatalf("%d were warned", w.count.warned)
	}
}

// TestNotForWhoGoes: nobody is warned for one who doesn't wait yet.
func TestNotForWhoGoes(t *testing.T) {
	w := made(t, brain.Config{Nodes: 3, Rows: 1, Quantum: 50, Grace: 3}, 0)
	w.add(api.Job{ID: 1, Tier: 3, K: 2, W: 200}, 0)
	w.add(api.Job{ID: 2, Tier: 0, K: 1, W: 200}, 0)
	for range 3 {
		w.tick()
		w.calm()
	}
	w.lost(0) // 1 is to go from node 1, too, and has room then but for 2
	for range 3 {
		w.tick()
	}
	if s, _ := w.state(1); s != api.Leaving || w.count.warned > 0 {
		t.Fatalf("state %d, %d were warned", s, w.count.warned)
	}
	w.calm()
	w.tick()
	if w.count.warned != 1 {
		t.Fatalf("%d were warned, and 1 waits", w.count.warned)
	}
}

// TestLeastHarm: of those who may have to go no more are warned than it takes, and those who go already count.
func TestLeastHarm(t *testing.T) {
	w := made(t, brain.Config{Nodes: 4, Rows: 1, Quantum: 50, Grace: 9}, 0)
	for id := range uint32(4) {
		w.add(api.Job{ID: 1 + id, Tier: byte(id / 2), K: 1, W: 500}, 0)
	}
	for range 5 {
		w.tick()
		w.calm()
	}
	w.add(api.Job{ID: 9, Tier: 3, K: 2, W: 5}, 0)
	for range 5 {
		w.tick() // nothing comes, so they are there still
	}
	for id, want := range map[uint32]bool{1: true, 2: true, 3: false, 4: false} {
		if _, ok := w.b.Warned(id); ok != want {
			t.Fatalf("%d is warned: %v", id, ok)
		}
	}
	w.until("Done", w.isDone(9))
	if w.count.warned != 2 {
		t.Fatalf("%d were warned", w.count.warned)
	}
}

// TestMoved: who goes to another row has his nodes still, and runs on.
func TestMoved(t *testing.T) {
	w := made(t, brain.Config{Nodes: 4, Rows: 2, Quantum: 3, Grace: 3}, 0)
	w.add(api.Job{ID: 1, K: 3, W: 4}, 0)
	w.add(api.Job{ID: 2, K: 2, W: 40}, 0)
	w.until("Done", w.isDone(1, 2))
	if w.count.moved == 0 {
		t.Fatal("nobody was moved, and a row is empty ahead")
	}
}

// TestMovedForNobodysHarm: nobody who waits is to start later, by the plan, for another one's going to an emptier row.
func TestMovedForNobodysHarm(t *testing.T) {
	w := made(t, brain.Config{Nodes: 4, Rows: 2, Quantum: 3, Grace: 3}, 0)
	w.add(api.Job{ID: 1, K: 3, W: 30}, 0)
	w.add(api.Job{ID: 2, K: 1, W: 3}, 0)  // goes ahead of 1, so that there is room for 4 in the row 0
	w.add(api.Job{ID: 3, K: 3, W: 90}, 0) // in the row 1, as 4 is
	w.add(api.Job{ID: 4, K: 1, W: 90}, 0)
	w.add(api.Job{ID: 5, K: 4, W: 10}, 0) // waits for 1
	w.until("Dropped", w.says(3, api.Dropped))
	was := w.plan()[5].At
	w.hear(3)
	if is := w.plan()[5].At; is > was || was == 0 {
		t.Fatalf("it was to start in %d ticks, and is now in %d", was, is)
	}
	w.until("Done", w.isDone(5))
	if w.isDone(4)() {
		t.Fatal("who came later was done ahead")
	}
}
