package brain_test

import (
	"slices"
	"testing"

	"quadrille/api"
	"quadrille/brain"
)

// without has all nodes but one take part in what is under way, and so many ticks pass.
func (w *world) without(node, ticks int) {
	w.t.Helper()
	for range ticks {
		for range 20 {
			for other := range w.nodes {
				if other != node {
					w.deliver(other)
					w.hear(other)
				}
			}
			w.tell()
			w.publish(true)
		}
		w.tick()
	}
}

// TestGoOnceLoaded: nobody is told to go till all ranks of the job are Loaded.
func TestGoOnceLoaded(t *testing.T) {
	w := made(t, brain.Config{Nodes: 3, Rows: 1, Quantum: 5, Grace: 3}, 0)
	w.add(api.Job{ID: 1, K: 3, W: 9}, 0)
	w.without(1, 30)
	if s, _ := w.state(1); s != api.Loading || w.b.Gen() != 0 || len(w.b.Members()) > 0 {
		t.Fatalf("state %d, generation %d", s, w.b.Gen())
	}
	w.until("Done", w.isDone(1))
}

// TestOthersGoOn: one who isn't Loaded keeps nobody else from running, in its row or in another one.
func TestOthersGoOn(t *testing.T) {
	w := made(t, brain.Config{Nodes: 3, Rows: 2, Quantum: 2, Grace: 3}, 0)
	w.add(api.Job{ID: 1, K: 2, W: 9}, 0) // at 0 and 1
	w.add(api.Job{ID: 2, K: 1, W: 9}, 0) // at 2
	w.add(api.Job{ID: 3, K: 1, W: 9}, 0) // at 0, in the other row
	w.without(1, 60)
	if !w.isDone(2, 3)() || w.isDone(1)() {
		t.Fatalf("done %v", w.done)
	}
	w.until("Done", w.isDone(1))
}

// TestGoAtRest: while one node hasn't said Stopped nobody is told to go, at no node; then, or once it is lost, the next ones are.
func TestGoAtRest(t *testing.T) {
	for _, lose := range []bool{false, true} {
		w := made(t, brain.Config{Nodes: 3, Rows: 2, Quantum: 5, Grace: 3}, 0)
		w.add(api.Job{ID: 1, K: 1, W: 50}, 0)
		w.add(api.Job{ID: 2, K: 2, W: 50}, 0)
		w.add(api.Job{ID: 3, K: 3, W: 50}, 0)
		w.until("a run", func() bool { return w.nodes[0].runs() == 1 && w.nodes[2].runs() == 2 })
		w.without(0, 30)
		if w.b.Gen() != 1 || w.b.Resting() || !slices.Equal(w.b.Members(), []uint32{1, 2}) {
			t.Fatalf("generation %d of %v, at rest: %v", w.b.Gen(), w.b.Members(), w.b.Resting())
		}
		if lose {
			w.lost(0)
			if !w.b.Resting() || w.b.Gen() != 1 {
				t.Fatalf("generation %d, at rest: %v", w.b.Gen(), w.b.Resting())
			}
			w.up(0)
		}
		w.until("Done", w.isDone(1, 2, 3))
	}
}

// TestTurns: all rows have their turns, the ones who run together stand at different nodes, and each generation is one above the last.
func TestTurns(t *testing.T) {
	w := made(t, brain.Config{Nodes: 3, Rows: 3, Quantum: 3, Grace: 3}, 0)
	for id := range uint32(3) {
		w.add(api.Job{ID: 1 + id, K: 2, W: 300}, 0)
	}
	w.add(api.Job{ID: 4, K: 1, W: 300}, 0)
	ran := map[uint32]int{}
	for range 120 {
		gen := w.b.Gen()
		w.tick()
		if w.b.Gen() > gen {
			for _, id := range w.b.Members() {
				ran[id]++
			}
		}
		w.calm()
	}
	for id := range uint32(4) {
		if ran[1+id] < 8 {
			t.Fatalf("%d of %d generations were %d's: %v", ran[1+id], w.b.Gen(), 1+id, ran)
		}
	}
}

// TestTurnsOfNewcomers: those who come later don't take the turns of one who is there.
func TestTurnsOfNewcomers(t *testing.T) {
	w := made(t, brain.Config{Nodes: 1, Rows: 4, Quantum: 3, Grace: 3}, 0)
	w.add(api.Job{ID: 1, K: 1, W: 60}, 0)
	for id := uint32(2); !w.isDone(1)(); id++ {
		w.add(api.Job{ID: id, K: 1, W: 3}, 0)
		w.until("room", func() bool { return len(w.b.Jobs()) < 4 })
		if id > 90 {
			t.Fatalf("%d are Done, and it isn't", len(w.done))
		}
	}
}

// TestNoTurnOfWhoHasRun: who has run all its ticks isn't told to go while that isn't published.
func TestNoTurnOfWhoHasRun(t *testing.T) {
	w := toPublish(t)
	gen := w.b.Gen()
	for range 9 {
		w.tick()
	}
	if w.b.Gen() != gen {
		t.Fatalf("generation %d behind %d", w.b.Gen(), gen)
	}
	w.until("Done", w.isDone(1))
}

// TestSavesOnTheWay: who is told to save is told to go behind that, though not all of its blobs are there yet.
func TestSavesOnTheWay(t *testing.T) {
	w := made(t, brain.Config{Nodes: 2, Rows: 1, Quantum: 3, Grace: 3}, 0)
	w.add(api.Job{ID: 1, K: 2, W: 9}, 0)
	w.until("Saved", w.says(0, api.Saved))
	w.tick()
	w.until("Done", w.isDone(1)) // each image is of the work that there is when it is told
	if w.b.Gen() != 3 {
		t.Fatalf("%d generations", w.b.Gen())
	}
}

// TestQuantum: a generation is told to stop once its Quantum is over, and not ahead of it, unless nobody has so much to run.
func TestQuantum(t *testing.T) {
	for _, x := range []struct{ quantum, w, ticks int }{{1, 9, 1}, {5, 9, 5}, {9, 9, 9}, {1000, 1200, 1000}} {
		w := made(t, brain.Config{Nodes: 2, Rows: 1, Quantum: x.quantum, Grace: 3}, 0)
		w.add(api.Job{ID: 1, K: 2, W: x.w}, 0)
		w.until("Go", w.isTold(1, api.Go))
		went := w.now
		w.until("Stop", w.isTold(1, api.Stop))
		if ticks := int(w.now - went); ticks != x.ticks {
			t.Fatalf("%+v: stopped behind %d ticks", x, ticks)
		}
	}
}

// TestNoNoteToWhoIsGone: what a node was told in a former life isn't counted on in the next one, and it is told anew.
func TestNoNoteToWhoIsGone(t *testing.T) {
	w := made(t, two(), 0)
	w.add(api.Job{ID: 1, K: 2, W: 9}, 0)
	for moves := 1; !w.isDone(1)(); moves++ {
		if moves%7 == 0 && moves < 400 {
			node := moves / 7 % 2
			w.lost(node)
			if moves%3 == 0 {
				w.move() // the other one may be told to drop, and to stop, or not
			}
			w.up(node)
		}
		if moves > 3000 {
			t.Fatal("isn't Done")
		}
		w.move()
	}
}
