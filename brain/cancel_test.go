package brain_test

import (
	"testing"

	"quadrille/api"
	"quadrille/brain"
)

// goes fails the test unless a job is known till no node has a rank of it, and that comes within 20 ticks.
func goes(t *testing.T, w *world, job uint32) {
	t.Helper()
	for ticks := 0; ; ticks++ {
		w.calm()
		ranks := 0
		for _, d := range w.nodes {
			if d.ranks[job] != nil {
				ranks++
			}
		}
		if _, known := w.b.Job(job); known != (ranks > 0) {
			t.Fatalf("tick %d: %d ranks, known: %v", w.now, ranks, known)
		} else if !known {
			return
		}
		if ticks == 20 {
			t.Fatalf("tick %d: known still", w.now)
		}
		w.tick()
	}
}

// TestCancel: whatever a job does it goes soon, and isn't Done.
func TestCancel(t *testing.T) {
	stages := map[byte]bool{}
	for moves := range 100 {
		w := made(t, brain.Config{Nodes: 3, Rows: 2, Quantum: 1000, Grace: 1000}, 0)
		w.add(api.Job{ID: 1, Tier: 1, K: 2, W: 7}, 0)
		w.add(api.Job{ID: 2, K: 3, W: 900}, 0)
		for range moves {
			w.move()
		}
		state, known := w.state(1)
		if known {
			stages[state] = true
		}
		done := len(w.done)
		w.cancel(1)
		goes(t, w, 1)
		if len(w.done) > done {
			t.Fatalf("%d moves: cancelled, and Done", moves)
		}
		if _, known := w.b.Job(2); !known {
			t.Fatalf("%d moves: another one is gone", moves)
		}
	}
	if len(stages) < 4 {
		t.Fatalf("cancelled at the stages %v alone", stages)
	}
}

// TestCancelOfWaiting: who waits is gone at once, and its number may be used anew.
func TestCancelOfWaiting(t *testing.T) {
	w := made(t, two(), 0)
	for range 3 {
		w.add(api.Job{ID: 1, K: 2, W: 7}, 5)
		w.cancel(1)
		if _, known := w.b.Job(1); known {
			t.Fatal("known still")
		}
	}
	w.tick()
	if len(w.nodes[0].in) > 0 {
		t.Fatal(w.nodes[0].in)
	}
}

// TestCancelOfWarned: who has grace and is cancelled doesn't wait anew.
func TestCancelOfWarned(t *testing.T) {
	w := warnedOne(t)
	w.cancel(1)
	goes(t, w, 1)
}

// TestCancelThenPublished: what was told may be published yet, but it isn't Done by that.
func TestCancelThenPublished(t *testing.T) {
	w := toPublish(t)
	w.cancel(1)
	if _, known := w.b.Job(1); !known || !w.publish(true) {
		t.Fatal("known no more, though its ranks are there")
	}
	goes(t, w, 1)
	if len(w.done) > 0 {
		t.Fatal("cancelled, and Done")
	}
}

// TestCancelOfDone: there is nothing to cancel of who is Done and has ranks still.
func TestCancelOfDone(t *testing.T) {
	w := toPublish(t)
	w.publish(true)
	if s, known := w.state(1); !known || s != api.Leaving {
		t.Fatal("who is Done isn't leaving")
	}
	w.cancel(1) // the world awaits ErrNone
	goes(t, w, 1)
	if len(w.done) != 1 {
		t.Fatal("isn't Done")
	}
}

// toPublish answers a world with a job of two nodes that has run, and whose image waits.
func toPublish(t *testing.T) *world {
	t.Helper()
	w := made(t, two(), 0)
	w.add(api.Job{ID: 1, K: 2, W: 3}, 0)
	w.until("an image", func() bool { return len(w.images) > 0 })
	return w
}

// warnedOne answers a world in which job 1, of tier 0, is warned for job 2, and is there still.
func warnedOne(t *testing.T) *world {
	t.Helper()
	w := made(t, brain.Config{Nodes: 2, Rows: 1, Quantum: 20, Grace: 9}, 0)
	w.add(api.Job{ID: 1, K: 2, W: 300}, 0)
	for range 6 {
		w.tick()
		w.calm()
	}
	w.add(api.Job{ID: 2, Tier: 1, K: 1, W: 5}, 0)
	w.tick()
	if _, ok := w.b.Warned(1); !ok {
		t.Fatal("not warned")
	}
	return w
}
