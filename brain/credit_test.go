package brain_test

import (
	"slices"
	"testing"

	"quadrille/api"
	"quadrille/brain"
)

// stopping answers a world in which job 1, of these numbers, was told to stop at all its nodes, 0 and on, and none has said so.
func stopping(t *testing.T, j api.Job) *world {
	t.Helper()
	w := made(t, brain.Config{Nodes: 3, Rows: 1, Quantum: 50, Grace: 3}, 0)
	w.add(j, 0)
	w.until("Stop", w.isTold(0, api.Stop))
	return w
}

// saves answers the credit of the Saves that are ordered, at as many nodes as that; 0: nothing is ordered.
func (w *world) saves(nodes int) int {
	w.t.Helper()
	l := w.b.Take()
	if len(l) == 0 {
		return 0
	}
	for _, o := range l {
		if len(l) != nodes || o.Note.Kind != api.Save || o.Note.Credit != l[0].Note.Credit {
			w.fail("ordered", l)
		}
	}
	return l[0].Note.Credit
}

// TestWork: a job's work goes up by the ticks in which all its ranks ran, up to W.
func TestWork(t *testing.T) {
	const last = api.MaxTick
	for _, x := range []struct {
		what   string
		credit int
		ran    [][3]uint32 // job, from, to
		want   int
	}{
		{"together", 0, [][3]uint32{{1, 3, 7}, {1, 3, 7}}, 5},
		{"one later", 0, [][3]uint32{{1, 3, 7}, {1, 5, 9}}, 3},
		{"one within another", 0, [][3]uint32{{1, 3, 12}, {1, 6, 6}}, 1},
		{"three", 0, [][3]uint32{{1, 3, 12}, {1, 6, 14}, {1, 1, 9}}, 4},
		{"three, of which two don't meet", 0, [][3]uint32{{1, 3, 12}, {1, 3, 5}, {1, 6, 12}}, 0},
		{"one behind the other", 0, [][3]uint32{{1, 3, 7}, {1, 8, 12}}, 0},
		{"one that didn't run", 0, [][3]uint32{{1, 3, 7}, {1, 0, 0}}, 0},
		{"one that says it ran none", 0, [][3]uint32{{1, 3, 7}, {0, 0, 0}}, 0},
		{"none that ran", 0, [][3]uint32{{1, 0, 0}, {1, 0, 0}}, 0},
		{"one that ran another job", 0, [][3]uint32{{1, 3, 7}, {2, 3, 7}}, 0},
		{"both another job", 0, [][3]uint32{{2, 3, 7}, {2, 3, 7}}, 0},
		{"one the wrong way", 0, [][3]uint32{{1, 3, 7}, {1, 7, 3}}, 0},
		{"from a credit on", 4, [][3]uint32{{1, 3, 7}, {1, 4, 9}}, 8},
		{"just up to W", 0, [][3]uint32{{1, 1, 20}, {1, 1, 20}}, 20},
		{"no more than W", 0, [][3]uint32{{1, 1, 21}, {1, 1, 40}}, 20},
		{"no more than W, from a credit on", 15, [][3]uint32{{1, 1, 9}, {1, 1, 9}}, 20},
		{"all ticks there are", 0, [][3]uint32{{1, 1, last}, {1, 1, last}}, 20},
		{"one rank", 0, [][3]uint32{{1, 6, 9}}, 4},
	} {
		w := stopping(t, api.Job{ID: 1, K: len(x.ran), W: 20, Credit: x.credit})
		for node, s := range x.ran {
			if n := w.saves(0); n != 0 || w.b.Resting() {
				t.Fatalf("%s: node %d runs, and a Save is ordered, or it rests", x.what, node)
			}
			w.is("Hear", w.b.Hear(node, api.Note{Kind: api.Stopped, Gen: 1, Job: s[0], From: s[1], To: s[2]}), api.OK)
		}
		if n := w.saves(len(x.ran)); n != x.want || !w.b.Resting() {
			t.Errorf("%s: work %d, want %d; rests: %v", x.what, n, x.want, w.b.Resting())
		}
	}
}

// TestWorkAddsUp: what was run in generations before isn't lost, and whoever is Done has run just its ticks.
func TestWorkAddsUp(t *testing.T) {
	w := made(t, brain.Config{Nodes: 2, Rows: 1, Quantum: 4, Grace: 3}, 0)
	w.add(api.Job{ID: 1, K: 2, W: 10}, 0)
	for _, want := range []uint32{1, 2, 3} {
		w.until("Stopped", w.says(0, api.Stopped))
		if w.b.Gen() != want {
			t.Fatalf("generation %d, want %d", w.b.Gen(), want)
		}
		w.until("rest", w.b.Resting)
	}
	w.until("Done", w.isDone(1))
	if w.jobs[1].job.Credit != 10 || w.b.Gen() != 3 {
		t.Fatalf("credit %d, %d generations", w.jobs[1].job.Credit, w.b.Gen())
	}
}

// TestWorkOfLost: once a node is lost a job's work is its credit again; of others' nothing is lost.
func TestWorkOfLost(t *testing.T) {
	w := made(t, brain.Config{Nodes: 3, Rows: 1, Quantum: 4, Grace: 3}, 0)
	w.add(api.Job{ID: 1, K: 2, W: 8}, 0)
	w.add(api.Job{ID: 2, K: 1, W: 8}, 0)
	w.until("Stopped", w.says(2, api.Stopped))
	w.hear(2)
	w.lost(1) // node 0 has run, and says so yet
	w.up(1)
	w.until("rest", w.b.Resting)
	if h := w.jobs[1]; h.work != 0 || w.jobs[2].work != 4 {
		t.Fatalf("work %d and %d", h.work, w.jobs[2].work)
	}
	w.until("Done", w.isDone(1, 2)) // all Saves are held against the work on the way
}

// TestWorkOfLostWhileRunning: the ranks that are left are stopped and dropped, whoever else runs, and all waits anew with what was published.
func TestWorkOfLostWhileRunning(t *testing.T) {
	w := made(t, brain.Config{Nodes: 3, Rows: 1, Quantum: 4, Grace: 3}, 0)
	w.add(api.Job{ID: 1, K: 3, W: 12}, 0)
	w.until("credit", func() bool { j, _ := w.b.Job(1); return j.Credit == 4 })
	w.until("a run", func() bool { return w.b.Gen() == 2 && w.nodes[2].runs() == 1 })
	w.lost(0)
	w.up(0)
	w.calm()
	if j, _ := w.b.Job(1); j.Credit != 4 || j.State != api.Queued || !w.b.Resting() {
		t.Fatalf("%+v, at rest: %v", j, w.b.Resting())
	}
	w.until("Done", w.isDone(1))
	if w.b.Gen() != 4 {
		t.Fatalf("%d generations", w.b.Gen())
	}
}

// TestLostAll: a job whose nodes are all lost waits anew at once.
func TestLostAll(t *testing.T) {
	w := made(t, two(), 0)
	w.add(api.Job{ID: 1, K: 2, W: 8}, 0)
	w.until("a run", func() bool { return w.nodes[1].runs() == 1 })
	w.lost(0)
	if s, _ := w.state(1); s != api.Leaving || w.b.Resting() {
		t.Fatalf("state %d, and node 1 runs it", s)
	}
	w.lost(1)
	if s, _ := w.state(1); s != api.Queued || !w.b.Resting() || len(w.b.Matrix().Jobs()) > 0 {
		t.Fatalf("state %d, and it has no node", s)
	}
	w.up(0)
	w.up(1)
	w.until("Done", w.isDone(1))
	if !slices.Equal(w.b.Members(), []uint32{1}) {
		t.Fatalf("Members %v", w.b.Members())
	}
}
